/-
  For every plan, shape, string, offsets and depth, laws.FnExactReadMsg returns true: the program's ReadMsg answers as the reference's, the plan is left as it was, and the answer shares no memory with it or with another answer. No condition.
-/
import Derived.Test.YtcnpdcmdnmfnaaaGreatRows
import Derived.WalkKit
import Derived.ProofKit
import Derived.OpenShut
import Derived.ShutString
import Derived.Below
import Derived.ChangeOld
import Derived.Lib.SmallJoins
import Derived.Test.YtcnpdcmdnmfnaaaGreatReadI
import Derived.Test.YtcnpdcmdnmfnaaaGreatXLaw
import Derived.Deep.DeepCutAuto
import Derived.Deep.RegionWith
namespace Go.Proofs.YtcnpdcmdnmfnaaaGreat.fnExactReadMsg
open Go.ChangeShapes Go.WideShapes Go.ChangeAt Go.RowKit Go.Joins
open Go.ChangeMaps (open_string shut_string)
set_option linter.unusedVariables false

theorem own : ownKnob Tryz.prog.godebug = none := by kernel_rfl
theorem cells44 : Tryz.prog.cellsOf 44 = 4 := by kernel_rfl
attribute [local go_sem] Region.wanted yielded
open Num in
/-- What the law keeps all along: the argument, what the reference told, how it failed. -/
structure RL (w : World) (g0 : Nat) (u : Value) (r : List RM) (A B D : Int) (g15 K : Nat) (f : Ev) (v0 : Value) (l : List Ev) : Prop where
  arg : Box w g0 [u, .int .i64 A, .int .i64 B, .int .i64 D]
  msgs : MsgsAt w (· < g0) u r
  fail : Box w g15 [.int .i64 f.kind, .int .i64 f.field, .int .u64 f.bits, .int .i64 f.len, .string f.text, .int .i64 f.code, .int .i64 f.pos]
  told : EvsAt w (· < K) v0 l
open Num in
theorem RL.below {w w' : World} {g0 : Nat} {u : Value} {r : List RM} {A B D : Int} {g15 K : Nat} {f : Ev} {v0 : Value} {l : List Ev} {L : Nat} (h : RL w g0 u r A B D g15 K f v0 l) (hb : Below L w w') (h0 : g0 < L) (h1 : g15 < L) (h2 : K ≤ L) : RL w' g0 u r A B D g15 K f v0 l :=
  ⟨h.arg.below hb h0, h.msgs.keep (.of_below hb fun b hb' => Nat.lt_trans hb' h0) fun _ h => h, h.fail.below hb h1, h.told.below hb fun b hb' => Nat.lt_of_lt_of_le hb' h2⟩
open Num in
theorem RL.up {w : World} {g0 : Nat} {u : Value} {r : List RM} {A B D : Int} {g15 K : Nat} {f : Ev} {v0 : Value} {l : List Ev} (h : RL w g0 u r A B D g15 K f v0 l) : MsgsAt w (· < w.heap.size) u r := h.msgs.keep (fun _ _ _ => rfl) fun b hb => Nat.lt_trans hb h.arg.lt
open Num in
/-- The plan that the program gets: memory of its own. -/
structure RX (w : World) (gx lo hi : Nat) (v : Value) (ms : List OM) (A B D : Int) : Prop where
  box : Box w gx [v, .int .i64 A, .int .i64 B, .int .i64 D]
  own : OwnIn w lo hi v ms
  top : hi ≤ gx
open Num in
theorem RX.below {w w' : World} {gx lo hi : Nat} {v : Value} {ms : List OM} {A B D : Int} (h : RX w gx lo hi v ms A B D) (hb : Below w.heap.size w w') : RX w' gx lo hi v ms A B D :=
  ⟨h.box.below hb h.box.lt, h.own.below hb (Nat.le_trans h.top (Nat.le_of_lt h.box.lt)), h.top⟩
open Num in
theorem OwnE.zone {w w' : World} {B : Nat} {T : TypeId} {v : Value} {l : List Ev} {lo hi : Nat} (h : OwnE w B T v l) (hz : Zone lo hi w w') (hB : hi ≤ B) : OwnE w' B T v l := by
  obtain ⟨h1, h2⟩ := h
  refine ⟨h1, ?_⟩
  rcases h2 with h2 | ⟨g, cap, cur, hv, hg, hb, h3⟩
  · exact .inl h2
  · have hlt : g < w.heap.size := by
      rcases Nat.lt_or_ge g w.heap.size with h | h
      · exact h
      · rw [Array.getElem?_eq_none h] at hb; cases hb
    exact .inr ⟨g, cap, cur, hv, hg, (hz.block g hlt (.inr (Nat.le_trans hB hg))).trans hb, h3⟩
open Num in
theorem readR_len {sch : List RM} {A B C shape : Int} {s : ByteArray} {a E deep : Int} : (readR sch A B C shape s a E deep).1.length ≤ 4 * s.size := by
  unfold readR
  split
  · next h =>
    unfold rdOkB at h
    simp only [Bool.and_eq_true, decide_eq_true_eq] at h
    obtain ⟨⟨⟨⟨_, _⟩, h1⟩, h2⟩, _⟩ := h
    have hadv := msgRd_adv (s := s) (sch := sch) (D := B) (s.size + 1) shape E deep ⟨a.toNat, [], zeroE⟩ (by show a.toNat ≤ s.size; omega) (by show ((a.toNat : Nat) : Int) ≤ E; omega)
    have k1 := hadv.len
    have k2 := hadv.inn
    have k3 : (⟨a.toNat, [], zeroE⟩ : RdM).out.length = 0 := rfl
    rw [k3] at k1
    show (msgRd s sch B (s.size + 1) shape E deep ⟨a.toNat, [], zeroE⟩).out.length ≤ _
    omega
  · exact Nat.zero_le _
open Num in
set_option maxHeartbeats 8000000 in
set_option maxRecDepth 100000 in
theorem walk (w : World) (y0 : Value) (t0 : List Num.RM) (A0 B0 C0 : Int) (H0 : Num.MsgsAt w (· < w.heap.size) y0 t0) (M0 : Num.inMem t0) (a1 : Int) (w1 : (Lit.int .i64 a1).wf = true) (a2 : ByteArray) (w2 : a2.size ≤ maxLen) (a3 : Int) (w3 : (Lit.int .i64 a3).wf = true) (a4 : Int) (w4 : (Lit.int .i64 a4).wf = true) (a5 : Int) (w5 : (Lit.int .i64 a5).wf = true) :
    Calls Tryz.prog 6 #[Num.planV y0 A0 B0 C0, .int .i64 a1, .string a2, .int .i64 a3, .int .i64 a4, .int .i64 a5] w fun e w' => e = .returned (.bool true) ∧ Below w.heap.size w w' := by
  unfold planV
  have h0 := H0
  clear H0
  obtain ⟨ua, cap, rfl⟩ := h0.len
  have G0 := Lib.hid h0
  have M0 := Lib.hid M0
  have HB := Lib.hid (And.intro (bounds_i64 w1) (And.intro (bounds_i64 w3) (And.intro (bounds_i64 w4) (bounds_i64 w5))))
  clear h0 w1 w3 w4 w5
  have hl : Below w.heap.size w (w.alloc (.cells #[.slice ua t0.length cap, .int .i64 A0, .int .i64 B0, .int .i64 C0] 44)) := (Below.refl _ _).alloc (Nat.le_refl _) _
  have hA : Box (w.alloc (.cells #[.slice ua t0.length cap, .int .i64 A0, .int .i64 B0, .int .i64 C0] 44)) w.heap.size [.slice ua t0.length cap, .int .i64 A0, .int .i64 B0, .int .i64 C0] := Box.fresh w #[.slice ua t0.length cap, .int .i64 A0, .int .i64 B0, .int .i64 C0] _
  have hMs : Hid (MsgsAt (w.alloc (.cells #[.slice ua t0.length cap, .int .i64 A0, .int .i64 B0, .int .i64 C0] 44)) (· < w.heap.size) (.slice ua t0.length cap) t0) := Lib.hid (G0.out.keep (.of_below hl fun _ h => h) fun _ h => h)
  go_enter Tryz.func6, Tryz.ntmps6
  go_upto_region 1 with fail
  generalize w.alloc (.cells #[.slice ua t0.length cap, .int .i64 A0, .int .i64 B0, .int .i64 C0] 44) = w1 at hl hA hMs ⊢
  have HA1 := Lib.hid hA
  clear hA G0
  by_cases hbig : 1048576 < a2.size
  · have hbigi : (1048576 : Int) < (a2.size : Int) := by omega
    go_wp2_with fail
    go_ret
    exact ⟨rfl, hl⟩
  · have hbigb : decide (1048576 < a2.size) = false := decide_eq_false hbig
    have hbigb2 : decide ((1048576 : Int) < (a2.size : Int)) = false := decide_eq_false (by omega)
    have hs : a2.size ≤ 1048576 := by omega
    obtain ⟨c0, c1, c2, c3, _⟩ := HA1.out.fourA
    have hgl := HA1.out.lt
    clear hbig
    go_wp2_with fail
    refine (szPlan_any _ t0 A0 B0 C0 1048576 _ (hMs.out.keep (fun _ _ _ => rfl) fun b hb => Nat.lt_trans hb hgl) M0.out (by omega) (by omega)).mono ?_
    rintro e w2 ⟨x, rfl, hx0, hx1, hx, hb2⟩
    have hl2 := hl.trans (hb2.mono hl.size)
    have HA2 := Lib.hid (HA1.out.below hb2 hgl)
    have HM2 : Hid (MsgsAt w2 (· < w.heap.size) (.slice ua t0.length cap) t0) := Lib.hid (hMs.out.keep (.of_below hb2 fun b hb => Nat.lt_trans hb hgl) fun _ h => h)
    have Hx := Lib.hid hx
    clear hl hb2 HA1 hMs hx c0 c1 c2 c3 hgl
    obtain ⟨c0, c1, c2, c3, _⟩ := HA2.out.fourA
    by_cases hneg : x < 0
    · go_wp2_with fail
      go_ret
      exact ⟨rfl, hl2⟩
    · have hneg2 : decide (x < 0) = false := decide_eq_false hneg
      have S0 := Lib.hid (Hx.out (by omega))
      have hgl := HA2.out.lt
      obtain ⟨Z, hZ⟩ : ∃ Z, readR t0 A0 B0 C0 a1 a2 a3 a4 a5 = Z := ⟨_, rfl⟩
      have hrl : Z.1.length ≤ 4194304 := by rw [← hZ]; have := readR_len (sch := t0) (A := A0) (B := B0) (C := C0) (shape := a1) (s := a2) (a := a3) (E := a4) (deep := a5); omega
      have HS := Lib.hid (fun v wx h => specReadMsg_any v t0 A0 B0 C0 a1 a3 a4 a5 a2 wx h S0.out (by omega) HB.out.2.2.1.2)
      have HI := Lib.hid (fun v wx h => implReadMsg_any v t0 A0 B0 C0 a1 a3 a4 a5 a2 wx h S0.out (by omega) ⟨HB.out.1, HB.out.2.1, HB.out.2.2.1, HB.out.2.2.2⟩)
      rw [hZ] at HS HI
      obtain ⟨r, f⟩ := Z
      obtain ⟨K, F, Bt, L, Tx, C, P, rfl⟩ := f.eta
      unfold planV evV at HS HI
      simp only at HS HI hrl
      clear hneg Hx hx0 hx1 hZ M0 HB
      go_wp2_with fail
      refine (toPlan_any _ t0 A0 B0 C0 _ (HM2.out.keep (fun _ _ _ => rfl) fun b hb => Nat.lt_trans hb hgl) S0.out).mono ?_
      rintro e w3 ⟨p, pc, rfl, hr3, hb3⟩
      have hl3 := hl2.trans (hb3.mono hl2.size)
      have HA3 := HA2.out.below hb3 hgl
      have HM3 : MsgsAt w3 (· < w.heap.size) (.slice ua t0.length cap) t0 := HM2.out.keep (.of_below hb3 fun b hb => Nat.lt_trans hb hgl) fun _ h => h
      have hg3 := HA3.lt
      clear hl2 hb3 HA2 HM2 c0 c1 c2 c3 hgl
      unfold planV
      go_wp2_with fail
      refine (HS.out _ _ hr3).mono ?_
      rintro e w4 ⟨v4, c4, rfl, ho4, hb4⟩
      have hl4 := hl3.trans (hb4.mono hl3.size)
      have hg4 : w.heap.size < w4.heap.size := Nat.lt_of_lt_of_le hg3 hb4.size
      have ha5 : Below w4.heap.size w4 (w4.alloc (.cells #[.int .i64 K, .int .i64 F, .int .u64 Bt, .int .i64 L, .string Tx, .int .i64 C, .int .i64 P] 34)) := (Below.refl _ _).alloc (Nat.le_refl _) _
      have HL5 : Hid (RL (w4.alloc (.cells #[.int .i64 K, .int .i64 F, .int .u64 Bt, .int .i64 L, .string Tx, .int .i64 C, .int .i64 P] 34)) w.heap.size (.slice ua t0.length cap) t0 A0 B0 C0 w4.heap.size w4.heap.size ⟨K, F, Bt, L, Tx, C, P⟩ (.slice v4 r.length c4) r) := Lib.hid ⟨(HA3.below hb4 hg3).below ha5 hg4, (HM3.keep (.of_below hb4 fun b hb => Nat.lt_trans hb hg3) fun _ h => h).keep (.of_below ha5 fun b hb => Nat.lt_trans hb hg4) fun _ h => h, Box.fresh w4 #[.int .i64 K, .int .i64 F, .int .u64 Bt, .int .i64 L, .string Tx, .int .i64 C, .int .i64 P] _, ho4.evsAll.below ha5 fun _ h => h⟩
      have hl5 : Below w.heap.size w (w4.alloc (.cells #[.int .i64 K, .int .i64 F, .int .u64 Bt, .int .i64 L, .string Tx, .int .i64 C, .int .i64 P] 34)) := hl4.alloc hl4.size _
      have hz5 : w4.heap.size < (w4.alloc (.cells #[.int .i64 K, .int .i64 F, .int .u64 Bt, .int .i64 L, .string Tx, .int .i64 C, .int .i64 P] 34)).heap.size := by simp
      clear HA3 HM3 hg3 hb4 ho4 hr3 hl3 hl4 ha5 HS
      go_upto_region 8 with fail
      generalize w4.alloc (.cells #[.int .i64 K, .int .i64 F, .int .u64 Bt, .int .i64 L, .string Tx, .int .i64 C, .int .i64 P] 34) = w5 at HL5 hl5 hz5 ⊢
      generalize w4.heap.size = g15 at HL5 hz5 hg4 ⊢
      obtain ⟨c0, c1, c2, c3, _⟩ := HL5.out.arg.fourA
      go_wp2_with fail
      refine (toPlan_own _ t0 A0 B0 C0 _ HL5.out.up S0.out).mono ?_
      rintro e w6 ⟨x, xc, ms, hpl, rfl, hown, hb6⟩
      unfold planV
      obtain ⟨lo, hlo⟩ : ∃ lo, w5.heap.size = lo := ⟨_, rfl⟩
      rw [hlo] at hown hb6 hz5
      have hHi : lo ≤ w6.heap.size := by rw [← hlo]; exact hb6.size
      have hg0l : w.heap.size < lo := by omega
      have HL6 := Lib.hid (HL5.out.below hb6 hg0l hz5 (Nat.le_of_lt hz5))
      have hl6 := hl5.trans (hb6.mono (by omega))
      have ha7 : Below w6.heap.size w6 (w6.alloc (.cells #[.slice x t0.length xc, .int .i64 A0, .int .i64 B0, .int .i64 C0] 28)) := (Below.refl _ _).alloc (Nat.le_refl _) _
      have HX7 : Hid (RX (w6.alloc (.cells #[.slice x t0.length xc, .int .i64 A0, .int .i64 B0, .int .i64 C0] 28)) w6.heap.size lo w6.heap.size (.slice x t0.length xc) ms A0 B0 C0) := Lib.hid ⟨Box.fresh w6 #[.slice x t0.length xc, .int .i64 A0, .int .i64 B0, .int .i64 C0] _, hown.below ha7 (Nat.le_refl _), Nat.le_refl _⟩
      have HL7 := Lib.hid (HL6.out.below (ha7.mono hHi) hg0l hz5 (Nat.le_of_lt hz5))
      have hl7 : Below w.heap.size w (w6.alloc (.cells #[.slice x t0.length xc, .int .i64 A0, .int .i64 B0, .int .i64 C0] 28)) := hl6.alloc hl6.size _
      have Hpl := Lib.hid hpl
      clear hown hb6 hlo HL5 HL6 hl5 hl6 ha7 c0 c1 c2 c3 hpl
      go_upto_region 9 with fail
      generalize w6.alloc (.cells #[.slice x t0.length xc, .int .i64 A0, .int .i64 B0, .int .i64 C0] 28) = w7 at HX7 HL7 hl7 ⊢
      generalize w6.heap.size = hi at HX7 hHi ⊢
      have hxl := HX7.out.box.lt
      obtain ⟨c0, c1, c2, c3, _⟩ := HX7.out.box.fourA
      go_wp2_with fail
      refine (HI.out _ _ (by have h := HX7.out.own.at_; rw [Hpl.out] at h; exact h.keep (fun _ _ _ => rfl) fun b hb => by have := hb.2; omega)).mono ?_
      rintro e w8 ⟨v8, c8, rfl, ho8, hb8⟩
      obtain ⟨Bs, hBs⟩ : ∃ Bs, w7.heap.size = Bs := ⟨_, rfl⟩
      have HX8 := HX7.out.below hb8
      rw [hBs] at ho8 hb8 hxl
      have hz8 : Bs ≤ w8.heap.size := by rw [← hBs]; exact hb8.size
      have hloB : lo ≤ Bs := by omega
      have HL8 := HL7.out.below (hb8.mono hloB) hg0l hz5 (Nat.le_of_lt hz5)
      have hl8 := hl7.trans (hb8.mono (by omega))
      have ha9 : Below w8.heap.size w8 (w8.alloc (.cells #[.int .i64 K, .int .i64 F, .int .u64 Bt, .int .i64 L, .string Tx, .int .i64 C, .int .i64 P] 34)) := (Below.refl _ _).alloc (Nat.le_refl _) _
      have HX9 := Lib.hid (HX8.below ha9)
      have HL9 := Lib.hid (HL8.below (ha9.mono (by omega)) hg0l hz5 (Nat.le_of_lt hz5))
      have HG9 := Lib.hid (ho8.below ha9 (Nat.le_refl _))
      have H189 : Hid (Box (w8.alloc (.cells #[.int .i64 K, .int .i64 F, .int .u64 Bt, .int .i64 L, .string Tx, .int .i64 C, .int .i64 P] 34)) w8.heap.size [.int .i64 K, .int .i64 F, .int .u64 Bt, .int .i64 L, .string Tx, .int .i64 C, .int .i64 P]) := Lib.hid (Box.fresh w8 #[.int .i64 K, .int .i64 F, .int .u64 Bt, .int .i64 L, .string Tx, .int .i64 C, .int .i64 P] _)
      have hl9 : Below w.heap.size w (w8.alloc (.cells #[.int .i64 K, .int .i64 F, .int .u64 Bt, .int .i64 L, .string Tx, .int .i64 C, .int .i64 P] 34)) := hl8.alloc hl8.size _
      have hz9 : Bs ≤ (w8.alloc (.cells #[.int .i64 K, .int .i64 F, .int .u64 Bt, .int .i64 L, .string Tx, .int .i64 C, .int .i64 P] 34)).heap.size := by simp; omega
      have hg18 := hz8
      clear HX8 HL8 ho8 hb8 hl8 hl7 HX7 HL7 ha9 c0 c1 c2 c3 hz8
      go_upto_region 10 with fail
      generalize w8.alloc (.cells #[.int .i64 K, .int .i64 F, .int .u64 Bt, .int .i64 L, .string Tx, .int .i64 C, .int .i64 P] 34) = w9 at HX9 HL9 HG9 H189 hl9 hz9 ⊢
      generalize w8.heap.size = g18 at H189 hg18 ⊢
      go_wp2_with fail
      refine (eqEventS_same _ _ r _ HG9.out.evsAll (HL9.out.told.wide fun b hb => by have h : b < g15 := hb; omega) (by omega)).mono ?_
      rintro e w10 ⟨rfl, hb10⟩
      have HX10 := Lib.hid (HX9.out.below hb10)
      have HL10 := Lib.hid (HL9.out.below (hb10.mono (by omega)) hg0l hz5 (Nat.le_of_lt hz5))
      have HG10 := Lib.hid (HG9.out.below hb10 (Nat.le_refl _))
      have H1810 := Lib.hid (H189.out.below hb10 H189.out.lt)
      have hl10 := hl9.trans (hb10.mono hl9.size)
      have hz10 : Bs ≤ w10.heap.size := Nat.le_trans hz9 hb10.size
      clear hb10 HX9 HL9 HG9 H189 hl9
      obtain ⟨⟨d0, d1, d2, d3, d4, d5, d6⟩, _⟩ := H1810.out.seven
      obtain ⟨⟨e0, e1, e2, e3, e4, e5, e6⟩, _⟩ := HL10.out.fail.seven
      go_wp2_with fail
      clear d0 d1 d2 d3 d4 d5 d6 e0 e1 e2 e3 e4 e5 e6
      refine (eqEvent_same ⟨K, F, Bt, L, Tx, C, P⟩ _).mono ?_
      rintro e w11 ⟨rfl, hb11⟩
      have HX11 := Lib.hid (HX10.out.below hb11)
      have HL11 := Lib.hid (HL10.out.below (hb11.mono (by omega)) hg0l hz5 (Nat.le_of_lt hz5))
      have HG11 := Lib.hid (HG10.out.below hb11 (Nat.le_refl _))
      have H1811 := Lib.hid (H1810.out.below hb11 H1810.out.lt)
      have hl11 := hl10.trans (hb11.mono hl10.size)
      have hz11 : Bs ≤ w11.heap.size := Nat.le_trans hz10 hb11.size
      clear hb11 HX10 HL10 HG10 H1810 hl10
      obtain ⟨c0, c1, c2, c3, _⟩ := HX11.out.box.fourA
      obtain ⟨d0, d1, d2, d3, _⟩ := HL11.out.arg.fourA
      have HX11d : RX w11.drew hi lo hi (.slice x t0.length xc) ms A0 B0 C0 := ⟨HX11.out.box, HX11.out.own.drew, HX11.out.top⟩
      have HL11d : RL w11.drew w.heap.size (.slice ua t0.length cap) t0 A0 B0 C0 g15 g15 ⟨K, F, Bt, L, Tx, C, P⟩ (.slice v4 r.length c4) r := ⟨HL11.out.arg, HL11.out.msgs, HL11.out.fail, HL11.out.told⟩
      go_upto_region 12 with fail
      go_cut [69] from 65 to 69 (fun s wx => s = .bool false ∧ Hid (RX wx hi lo hi (.slice x t0.length xc) ms A0 B0 C0) ∧ Hid (RL wx w.heap.size (.slice ua t0.length cap) t0 A0 B0 C0 g15 g15 ⟨K, F, Bt, L, Tx, C, P⟩ (.slice v4 r.length c4) r) ∧ Hid (OwnE wx Bs 34 (.slice v8 r.length c8) r) ∧ Hid (Box wx g18 [.int .i64 K, .int .i64 F, .int .u64 Bt, .int .i64 L, .string Tx, .int .i64 C, .int .i64 P]) ∧ Below w.heap.size w wx ∧ Bs ≤ wx.heap.size)
      case first =>
        go_region_with (first
          | (go_at_call 16; refine (toPlan_any _ t0 A0 B0 C0 _ HL11d.up S0.out).mono ?_; rintro e w12 ⟨ka, kc, rfl, hr12, hb12⟩; have hX12 := HX11d.below hb12; obtain ⟨e0, e1, e2, e3, _⟩ := hX12.box.fourA)
          | (go_at_call 19; refine (eqPlan_same _ _ t0 A0 B0 C0 _ (by have h := hX12.own.at_; rw [Hpl.out] at h; exact h.keep (fun _ _ _ => rfl) fun b hb => by have := hb.2; have := hX12.box.lt; have := hX12.top; omega) hr12 S0.out).mono ?_; rintro e w13 ⟨rfl, hb13⟩))
        all_goals
          have hb1213 := hb12.trans (hb13.mono hb12.size)
          have hbd : Below w11.heap.size w11 w13 := (Below.refl _ _).drew.trans hb1213
          have HXf := Lib.hid (HX11.out.below hbd)
          have HLf := Lib.hid (HL11.out.below (hbd.mono (by omega)) hg0l hz5 (Nat.le_of_lt hz5))
          have HGf := Lib.hid (HG11.out.below hbd (Nat.le_refl _))
          have H18f := Lib.hid (H1811.out.below hbd H1811.out.lt)
          have hlf := hl11.trans (hbd.mono hl11.size)
          have hzf : Bs ≤ w13.heap.size := Nat.le_trans hz11 hbd.size
          clear hb12 hb13 hb1213 hbd hX12 hr12 HX11d HL11d
          go_wp2_with fail
          go_meet
          exact ⟨rfl, HXf, HLf, HGf, H18f, hlf, hzf⟩
      case rest =>
        obtain ⟨rfl, HX13, HL13, HG13, H1813, hl13, hz13⟩ := hcut
        clear HX11 HL11 HG11 H1811 hl11 hz11 c0 c1 c2 c3 d0 d1 d2 d3 HX11d HL11d
        obtain ⟨w13, rfl⟩ : ∃ w13, w13 = wc := ⟨_, rfl⟩
        obtain ⟨h6, hl6⟩ := small_own Hpl.out S0.out
        obtain ⟨c0, c1, c2, c3, _⟩ := HX13.out.box.fourA
        go_wp2_with fail
        refine (markPlan_any _ ms A0 B0 C0 1 _ HX13.out.own (by have := HX13.out.box.lt; omega) h6 hl6 (by omega)).mono ?_
        rintro e w14 ⟨rfl, hzn⟩
        have hloz : lo ≤ w13.heap.size := by omega
        have hbn : Below lo w13 w14 := hzn.below (Nat.le_refl _) hloz
        have HL14 := Lib.hid (HL13.out.below hbn hg0l hz5 (Nat.le_of_lt hz5))
        have HG14 := Lib.hid (OwnE.zone HG13.out hzn (by omega))
        have H1814 := Lib.hid (H1813.out.zone hzn (.inr (by omega)))
        have hl14 := hl13.trans (hbn.mono (Nat.le_of_lt hg0l))
        have hz14 : Bs ≤ w14.heap.size := Nat.le_trans hz13 hbn.size
        obtain ⟨kk, hkk⟩ : ∃ kk, kAt 1 ms ms.length = kk := ⟨_, rfl⟩
        have hk1 := (kAt_le (k := 1) hl6 ms.length (Nat.le_refl _)).1
        rw [hkk] at hk1 ⊢
        have hkn : decide (kk < 0) = false := decide_eq_false (by omega)
        clear hzn hbn hloz HL13 HG13 H1813 HX13 hl13 hz13 c0 c1 c2 c3 hkk h6 hl6 hk1
        go_wp2_with fail
        refine (eqEventS_same _ _ r _ HG14.out.evsAll (HL14.out.told.wide fun b hb => by have h : b < g15 := hb; omega) (by omega)).mono ?_
        rintro e w15 ⟨rfl, hb15⟩
        have HL15 := Lib.hid (HL14.out.below (hb15.mono (by omega)) hg0l hz5 (Nat.le_of_lt hz5))
        have HG15 := Lib.hid (HG14.out.below hb15 (Nat.le_refl _))
        have H1815 := Lib.hid (H1814.out.below hb15 H1814.out.lt)
        have hl15 := hl14.trans (hb15.mono hl14.size)
        have hz15 : Bs ≤ w15.heap.size := Nat.le_trans hz14 hb15.size
        clear hb15 HL14 HG14 H1814 hl14 hz14
        obtain ⟨⟨d0, d1, d2, d3, d4, d5, d6⟩, _⟩ := H1815.out.seven
        obtain ⟨⟨e0, e1, e2, e3, e4, e5, e6⟩, _⟩ := HL15.out.fail.seven
        go_wp2_with fail
        clear d0 d1 d2 d3 d4 d5 d6 e0 e1 e2 e3 e4 e5 e6
        refine (eqEvent_same ⟨K, F, Bt, L, Tx, C, P⟩ _).mono ?_
        rintro e w16 ⟨rfl, hb16⟩
        have HL16 := Lib.hid (HL15.out.below (hb16.mono (by omega)) hg0l hz5 (Nat.le_of_lt hz5))
        have HG16 := Lib.hid (HG15.out.below hb16 (Nat.le_refl _))
        have H1816 := Lib.hid (H1815.out.below hb16 H1815.out.lt)
        have hl16 := hl15.trans (hb16.mono hl15.size)
        have hz16 : Bs ≤ w16.heap.size := Nat.le_trans hz15 hb16.size
        clear hb16 HL15 HG15 H1815 hl15 hz15
        go_wp2_with fail
        refine (markOwn_any _ HG16.out hz16 hrl).mono ?_
        rintro e w17 ⟨rfl, hm17, hb17⟩
        have HM17 := Lib.hid hm17
        have HL17 := Lib.hid (HL16.out.below (hb17.mono hloB) hg0l hz5 (Nat.le_of_lt hz5))
        have hl17 := hl16.trans (hb17.mono (by omega))
        have hz17 : Bs ≤ w17.heap.size := Nat.le_trans hz16 hb17.size
        clear hm17 hb17 HL16 HG16 H1816 hl16 hz16 hkn
        obtain ⟨M, hM⟩ : ∃ M : Int, 1 + 7 * (r.length : Int) = M := ⟨_, rfl⟩
        have HMM := Lib.hid hM
        have hp : decide (M < 0) = false := decide_eq_false (by omega)
        rw [hM]
        clear hM
        go_wp2_with fail
        refine (heldOwn_any _ HM17.out hrl).mono ?_
        rw [HMM.out]
        rintro e w18 ⟨rfl, hb18⟩
        have HL18 := Lib.hid (HL17.out.below (hb18.mono (by omega)) hg0l hz5 (Nat.le_of_lt hz5))
        have HM18 := Lib.hid (HM17.out.below hb18)
        have hl18 := hl17.trans (hb18.mono hl17.size)
        have hz18 : Bs ≤ w18.heap.size := Nat.le_trans hz17 hb18.size
        clear hb18 HL17 HM17 hl17 hz17
        obtain ⟨c0, c1, c2, c3, _⟩ := HL18.out.arg.fourA
        go_wp2_with fail
        refine (toPlan_any _ t0 A0 B0 C0 _ HL18.out.up S0.out).mono ?_
        rintro e w19 ⟨p9, pc9, rfl, hr9, hb19⟩
        have HL19 := Lib.hid (HL18.out.below (hb19.mono (by omega)) hg0l hz5 (Nat.le_of_lt hz5))
        have HM19 := Lib.hid (HM18.out.below hb19)
        have hl19 := hl18.trans (hb19.mono hl18.size)
        have hz19 : Bs ≤ w19.heap.size := Nat.le_trans hz18 hb19.size
        clear hb19 HL18 HM18 hl18 hz18
        unfold planV
        clear c0 c1 c2 c3
        go_wp2_with fail
        refine (HI.out _ _ hr9).mono ?_
        rintro e w20 ⟨v20, c20, rfl, ho20, hb20⟩
        have HH20 := ho20.evsAll
        have HL20 := Lib.hid (HL19.out.below (hb20.mono (by omega)) hg0l hz5 (Nat.le_of_lt hz5))
        have HM20 := Lib.hid (HM19.out.below hb20)
        have hl20 := hl19.trans (hb20.mono hl19.size)
        have hz20 : Bs ≤ w20.heap.size := Nat.le_trans hz19 hb20.size
        clear hb20 HL19 HM19 hl19 hz19
        have hb21 : Below w20.heap.size w20 (w20.alloc (.cells #[.int .i64 K, .int .i64 F, .int .u64 Bt, .int .i64 L, .string Tx, .int .i64 C, .int .i64 P] 34)) := (Below.refl _ _).alloc (Nat.le_refl _) _
        have HH21 : Hid (EvsAt (w20.alloc (.cells #[.int .i64 K, .int .i64 F, .int .u64 Bt, .int .i64 L, .string Tx, .int .i64 C, .int .i64 P] 34)) (· < (w20.alloc (.cells #[.int .i64 K, .int .i64 F, .int .u64 Bt, .int .i64 L, .string Tx, .int .i64 C, .int .i64 P] 34)).heap.size) (.slice v20 r.length c20) r) := Lib.hid (HH20.grow hb21 (Nat.le_refl _))
        have H2321 : Hid (Box (w20.alloc (.cells #[.int .i64 K, .int .i64 F, .int .u64 Bt, .int .i64 L, .string Tx, .int .i64 C, .int .i64 P] 34)) w20.heap.size [.int .i64 K, .int .i64 F, .int .u64 Bt, .int .i64 L, .string Tx, .int .i64 C, .int .i64 P]) := Lib.hid (Box.fresh w20 #[.int .i64 K, .int .i64 F, .int .u64 Bt, .int .i64 L, .string Tx, .int .i64 C, .int .i64 P] _)
        obtain ⟨w21, hw21⟩ : ∃ w21, w20.alloc (.cells #[.int .i64 K, .int .i64 F, .int .u64 Bt, .int .i64 L, .string Tx, .int .i64 C, .int .i64 P] 34) = w21 := ⟨_, rfl⟩
        go_upto_region 27 with fail
        rw [hw21] at hb21 HH21 H2321
        have HL21 := Lib.hid (HL20.out.below (hb21.mono (by omega)) hg0l hz5 (Nat.le_of_lt hz5))
        have HM21 := Lib.hid (HM20.out.below hb21)
        have hl21 := hl20.trans (hb21.mono hl20.size)
        have hz21 : Bs ≤ w21.heap.size := Nat.le_trans hz20 hb21.size
        clear hb21 HL20 HM20 hl20 hz20
        generalize w20.heap.size = g23 at H2321 ⊢
        clear hw21 HH20 ho20 hr9
        go_wp2_with fail
        refine (eqEventS_same _ _ r _ HH21.out (HL21.out.told.wide fun b hb => by have h : b < g15 := hb; omega) (by omega)).mono ?_
        rintro e w22 ⟨rfl, hb22⟩
        have H2322 := Lib.hid (H2321.out.below hb22 H2321.out.lt)
        have HL22 := Lib.hid (HL21.out.below (hb22.mono (by omega)) hg0l hz5 (Nat.le_of_lt hz5))
        have HM22 := Lib.hid (HM21.out.below hb22)
        have hl22 := hl21.trans (hb22.mono hl21.size)
        have hz22 : Bs ≤ w22.heap.size := Nat.le_trans hz21 hb22.size
        clear hb22 HL21 HM21 hl21 hz21
        obtain ⟨⟨d0, d1, d2, d3, d4, d5, d6⟩, _⟩ := H2322.out.seven
        obtain ⟨⟨e0, e1, e2, e3, e4, e5, e6⟩, _⟩ := HL22.out.fail.seven
        clear HH21 H2321
        go_wp2_with fail
        clear d0 d1 d2 d3 d4 d5 d6 e0 e1 e2 e3 e4 e5 e6
        refine (eqEvent_same ⟨K, F, Bt, L, Tx, C, P⟩ _).mono ?_
        rintro e w23 ⟨rfl, hb23⟩
        have HL23 := Lib.hid (HL22.out.below (hb23.mono (by omega)) hg0l hz5 (Nat.le_of_lt hz5))
        have HM23 := Lib.hid (HM22.out.below hb23)
        have hl23 := hl22.trans (hb23.mono hl22.size)
        have hz23 : Bs ≤ w23.heap.size := Nat.le_trans hz22 hb23.size
        clear hb23 HL22 HM22 hl22 hz22
        clear H2322
        go_wp2_with fail
        refine (heldOwn_any _ HM23.out hrl).mono ?_
        rw [HMM.out]
        rintro e w24 ⟨rfl, hb24⟩
        have hl24 := hl23.trans (hb24.mono hl23.size)
        go_wp2_with fail
        go_ret
        exact ⟨rfl, hl24⟩

set_option maxHeartbeats 1000000 in
set_option maxRecDepth 100000 in
theorem lifted (os : Os) (started : os.Started) (H : Type) (enc : TypeId × Value → H) :
    ReturnsInHanded {} Tryz.checked os 6 .any (Rows.fnExactReadMsgSpec.pre6 enc Tryz.prog Tryz.f6 Rows.fnExactReadMsgRow.domain false) (Rows.fnExactReadMsgSpec.post enc Tryz.prog Tryz.f6 false true false false) := by
  refine returnsInHanded_of_change (C := Tryz.checked) own started (by kernel_rfl) Tryz.func6
    (ChangeSpec.witness6 (enc := enc) (C := Tryz.checked) false ⟨#[], #[.agg #[.slice none 0 0, .int .i64 0, .int .i64 0, .int .i64 0], .int .i64 0, .string ByteArray.empty, .int .i64 0, .int .i64 0, .int .i64 0], []⟩ 8 (by kernel_rfl) (by kernel_rfl) (by kernel_rfl) (by kernel_rfl)) ?_
  intro W base args ds gs before hval0 hW hcnd _
  have hval : ∀ (j : Nat) t v, Tryz.f6.params[j]? = some t → args[j]? = some v → Value.okWide Tryz.prog W .any base t v := hval0
  have hW' := hW
  obtain ⟨p, q, hA0, hV, rfl, hfz, hnd⟩ := hW
  have hA : DataW.TrodAll enc Tryz.prog W 0 (fun _ => true) true Tryz.f6.params.toList args.toList ds p := hA0
  have hAk := hA
  rw [Tryz.params6] at hA hval
  obtain ⟨v0, vs0, d0, ds0, p0, q0, hargs, rfl, rfl, h0, r0⟩ := trodAll_cons hA
  obtain ⟨v1, vs1, d1, ds1, p1, q1, rfl, rfl, rfl, h1, r1⟩ := trodAll_cons r0
  obtain ⟨v2, vs2, d2, ds2, p2, q2, rfl, rfl, rfl, h2, r2⟩ := trodAll_cons r1
  obtain ⟨v3, vs3, d3, ds3, p3, q3, rfl, rfl, rfl, h3, r3⟩ := trodAll_cons r2
  obtain ⟨v4, vs4, d4, ds4, p4, q4, rfl, rfl, rfl, h4, r4⟩ := trodAll_cons r3
  obtain ⟨v5, vs5, d5, ds5, p5, q5, rfl, rfl, rfl, h5, r5⟩ := trodAll_cons r4
  obtain ⟨rfl, rfl, rfl⟩ := trodAll_nil r5
  obtain rfl : args = #[v0, v1, v2, v3, v4, v5] := by cases args; simp_all
  obtain ⟨rfl, rfl⟩ := trodVars_none hV
  obtain ⟨y0, t0, A0, B0, C0, rfl, H0, M0⟩ := Num.open_plan (hval 0 44 v0 rfl rfl) h0
  obtain ⟨a1, rfl, rfl, rfl, w1⟩ := open_int Tryz.underlying3 (hval 1 3 v1 rfl rfl) h1
  obtain ⟨a2, rfl, rfl, rfl, w2⟩ := open_string Tryz.underlying9 (hval 2 9 v2 rfl rfl) h2
  obtain ⟨a3, rfl, rfl, rfl, w3⟩ := open_int Tryz.underlying3 (hval 3 3 v3 rfl rfl) h3
  obtain ⟨a4, rfl, rfl, rfl, w4⟩ := open_int Tryz.underlying3 (hval 4 3 v4 rfl rfl) h4
  obtain ⟨a5, rfl, rfl, rfl, w5⟩ := open_int Tryz.underlying3 (hval 5 3 v5 rfl rfl) h5
  clear hA0 hval0
  refine (walk W y0 t0 A0 B0 C0 H0 M0 a1 w1 a2 w2 a3 w3 a4 w4 a5 w5).mono fun e W' ⟨he, hg⟩ => ?_
  subst he
  exact ⟨_, rfl, _, _, _, [], _, [], hW', (trodAll_cons_mk (shut_bool Tryz.underlying4 _) trodAll_mk0), Num.args_again (by rw [Tryz.params6]; decide) hAk hg, rfl, hg.frame _, fun h => by cases h⟩

theorem over : Rows.fnExactReadMsgRow.holds Tryz.pinned (OpenSpec.ofChange Rows.fnExactReadMsgSpec) :=
  OpenClaim.holds_of_wide 6 Tryz.f6 rfl rfl rfl rfl rfl rfl rfl ⟨rfl, rfl, rfl, rfl, rfl⟩ rfl rfl rfl rfl rfl (by kernel_rfl) Tryz.func6 (by kernel_rfl)
    (of_decide_eq_true (by kernel_rfl)) (by unfold Func.isWrapper; first | (rw [if_pos (by decide +kernel)]; kernel_rfl) | (rw [if_neg (by decide +kernel)]; exact ⟨rfl, rfl⟩))
    (fun os started H enc _ => lifted os started H enc)

theorem proved : Rows.FnExactReadMsgSaid :=
  over
end Go.Proofs.YtcnpdcmdnmfnaaaGreat.fnExactReadMsg
