/-
  For every code of bytes, laws.FnUtfCut returns true: in two pieces a string leads to the state and the refused byte to which it leads at once. No condition.
-/
import Derived.Test.YtoohcepobbbejaaRows
import Derived.WalkKit
import Derived.ProofKit
import Derived.OpenShut
import Derived.ShutString
import Derived.ChangeOld
import Derived.Below
import Derived.Test.YtoohcepobbbejaaUtfImpl
import Derived.Test.YtoohcepobbbejaaDrawUtf2
import Derived.Test.YtoohcepobbbejaaAt0
namespace Go.Proofs.Ytoohcepobbbejaa.fnUtfCut
open Go.ChangeShapes Go.WideShapes Go.ChangeAt Go.RowKit
open Go.ChangeMaps (open_string shut_string)
set_option linter.unusedVariables false

theorem own : ownKnob Try.prog.godebug = none := by kernel_rfl
theorem laidOut : laidOutB Try.prog = true := by kernel_rfl

/-- WHAT THE WALK IS TOLD OF A SLICE OF INTEGERS THAT CAME IN: it is nil; or it leads to a row of 'cap' cells, the numbers 'zs' (the first 'len' are its elements, the rest its spare room), each fitting its kind. -/
def IsRow (k : IntKind) (w : World) (a : Option Addr) (len cap : Nat) (zs : List Int) : Prop :=
  (a = none ∧ len = 0 ∧ cap = 0 ∧ zs = []) ∨
  ∃ x, a = some x ∧ len ≤ cap ∧ cap ≤ maxLen ∧ zs.length = cap ∧ (∀ i, i < zs.length → w.cell? (x.add i) = some (.int k (zs.getD i 0))) ∧ ∀ n ∈ zs, (Lit.int k n).wf = true

/-! ### STEP 1: THE WALK: the Go text returns true, AND WRITES NOTHING THAT WAS THERE: 'Below w.heap.size w w'' (Derived/Below.lean: '.refl', '.alloc', '.drew', '.setCell' at a new block, '.trans'). Open each 'IsRow' by 'rcases' AHEAD of 'go_enter'; part every test ahead of the walk. -/
attribute [local go_sem] Region.wanted yielded
open Num in
theorem text_as (s : ByteArray) (W L H A B C k : Int) (r : Utf.St × Option Nat) (hr : Utf.run (W, L, H) s.data.toList = r) (hv : r.1 = (A, B, C)) (hk : offI r.2 = k) (hs : s.size ≤ 64) (w : World) :
    Calls Try.prog 19 #[.agg #[.int .i64 W, .int .i64 L, .int .i64 H], .string s] w fun e w' => e = .returned (.tuple #[.agg #[.int .i64 A, .int .i64 B, .int .i64 C], .int .i64 k]) ∧ Below w.heap.size w w' :=
  (implUtfText_any W L H s w (by omega)).mono fun e w' ⟨he, hb⟩ => ⟨by rw [he, hr]; unfold textV utV; rw [hv, hk], hb⟩
open Num in
theorem stext_as (s : ByteArray) (W L H A B C k : Int) (r : Utf.St × Option Nat) (hr : Utf.run (W, L, H) s.data.toList = r) (hv : r.1 = (A, B, C)) (hk : offI r.2 = k) (hs : s.size ≤ 64) (w : World) :
    Calls Try.prog 20 #[.agg #[.int .i64 W, .int .i64 L, .int .i64 H], .string s] w fun e w' => e = .returned (.tuple #[.agg #[.int .i64 A, .int .i64 B, .int .i64 C], .int .i64 k]) ∧ Below w.heap.size w w' :=
  (specUtfText_any W L H s w (by omega)).mono fun e w' ⟨he, hb⟩ => ⟨by rw [he, hr]; unfold textV utV; rw [hv, hk], hb⟩
open Num in
theorem state_as (s : ByteArray) (W L H : Int) (h : (Utf.run Utf.z s.data.toList).1 = (W, L, H)) (hs : s.size ≤ 64) (w : World) : Calls Try.prog 22 #[.string s] w fun e w' => e = .returned (.agg #[.int .i64 W, .int .i64 L, .int .i64 H]) ∧ Below w.heap.size w w' :=
  (implUtfState_any s w (by omega)).mono fun e w' ⟨he, hb⟩ => ⟨by rw [he, h]; rfl, hb⟩
open Num in
theorem state_empty (w : World) : Calls Try.prog 21 #[.string ⟨#[]⟩] w fun e w' => e = .returned (.agg #[.int .i64 0, .int .i64 0, .int .i64 0]) ∧ Below w.heap.size w w' :=
  specUtfState_any ⟨#[]⟩ w (by decide)
theorem head_of (s : ByteArray) (k : Nat) : (s.extract 0 k).data.toList = s.data.toList.take k := by
  rw [ByteArray.data_extract, Array.toList_extract]; simp [List.extract]
theorem rest_of (s : ByteArray) (k : Nat) : (s.extract k s.size).data.toList = s.data.toList.drop k := by
  rw [ByteArray.data_extract, Array.toList_extract]
  simp only [List.extract]
  exact List.take_of_length_le (by simp)
theorem cut_run (l : List UInt8) (k : Nat) (hk : k ≤ l.length) (u : Utf.St) : Utf.run u l = match Utf.run u (l.take k) with
    | (v, none) => ((Utf.run v (l.drop k)).1, (Utf.run v (l.drop k)).2.map (· + k))
    | (v, some m) => (v, some m) := by
  have h := Utf.run_append (l.take k) u (l.drop k)
  rw [List.take_append_drop, List.length_take, show min k l.length = k by omega] at h
  exact h
section
open Num
variable {w wr w1 : World} {T : TypeId} {vs us : List Value} {g1 g2 : Nat}
theorem cutA (hx : Box wr g1 vs) (hy : Box wr g2 us) (hl : Below w.heap.size w wr) (hb : Below wr.drew.heap.size wr.drew w1) (cs : Array Value) :
    Box (w1.alloc (.cells cs T)) g2 us ∧ Box (w1.alloc (.cells cs T)) w1.heap.size cs.toList ∧ Below w.heap.size w (w1.alloc (.cells cs T)) := by
  have h2 : Below w.heap.size w w1 := hl.drew.trans (hb.mono hl.size)
  exact ⟨(hy.drew.below hb hy.lt).alloc _, Box.fresh _ _ _, h2.alloc h2.size _⟩
theorem cutB (hx : Box wr g1 vs) (hy : Box wr g2 us) (hl : Below w.heap.size w wr) (hb : Below (wr.alloc (.cells #[.int .i64 0, .int .i64 0, .int .i64 0] T)).drew.heap.size (wr.alloc (.cells #[.int .i64 0, .int .i64 0, .int .i64 0] T)).drew w1) (A B C : Int) :
    Box (((w1.setCell ⟨wr.heap.size, 0, none⟩ (.int .i64 A)).setCell ⟨wr.heap.size, 1, none⟩ (.int .i64 B)).setCell ⟨wr.heap.size, 2, none⟩ (.int .i64 C)) g2 us ∧ Box (((w1.setCell ⟨wr.heap.size, 0, none⟩ (.int .i64 A)).setCell ⟨wr.heap.size, 1, none⟩ (.int .i64 B)).setCell ⟨wr.heap.size, 2, none⟩ (.int .i64 C)) wr.heap.size [.int .i64 A, .int .i64 B, .int .i64 C] ∧ Below w.heap.size w (((w1.setCell ⟨wr.heap.size, 0, none⟩ (.int .i64 A)).setCell ⟨wr.heap.size, 1, none⟩ (.int .i64 B)).setCell ⟨wr.heap.size, 2, none⟩ (.int .i64 C)) := by
  have h3 := hy.lt
  have h4 := hl.size
  have h2 : Below w.heap.size w w1 := (hl.alloc hl.size _).drew.trans (hb.mono (by simp; omega))
  exact ⟨((((hy.alloc _).drew.below hb (by simp; omega)).other (by simp; omega) _).other (by simp; omega) _).other (by simp; omega) _, ((((Box.fresh wr _ _).drew.below hb (by simp)).set 0 _).set 1 _).set 2 _, ((h2.setCell (by simp; omega) _).setCell (by simp; omega) _).setCell (by simp; omega) _⟩
end
open Num in
set_option maxHeartbeats 4000000 in
set_option maxRecDepth 100000 in
theorem walk (a0 : Option Addr) (len0 cap0 : Nat) (z0 : List Int) (w : World) (w0 : IsRow .u8 w a0 len0 cap0 z0) :
    Calls Try.prog 4 #[.slice a0 len0 cap0] w fun e w' => e = .returned (.bool true) ∧ Below w.heap.size w w' := by
  by_cases hb : 1048576 < len0
  · clear w0
    go_enter Try.func4, Try.ntmps4
    go_wp2
    go_ret
    exact ⟨rfl, Below.refl _ _⟩
  · have hcode := codeOf w0 (by omega)
    have Hcode := Lib.hid hcode
    clear w0 hcode
    go_enter Try.func4, Try.ntmps4
    go_wp2_with (go_at_call 13; go_in)
    refine (drawUtfGood_any a0 len0 cap0 _ Hcode.out).mono ?_
    rintro e w1 ⟨s, hs, rfl, hb1⟩
    go_wp2_with fail
    refine (at0_any a0 len0 cap0 _ 2 _ (Hcode.out.below hb1) (by omega)).mono ?_
    rintro e w2 ⟨r, hr, rfl, rfl⟩
    have hm : (r : Int) % ((s.size : Int) + 1) = ((r % (s.size + 1) : Nat) : Int) := by simp
    have hk : r % (s.size + 1) ≤ s.size := by have := Nat.mod_lt r (show 0 < s.size + 1 by omega); omega
    generalize r % (s.size + 1) = k at hm hk
    have hi0 : (0 : Int) ≤ (k : Int) := by omega
    have hi1 : (k : Int) ≤ (s.size : Int) := by omega
    have Hh : Hid ((s.extract 0 k).size ≤ 64) := Lib.hid (by rw [ByteArray.size_extract]; omega)
    have Hr : Hid ((s.extract k s.size).size ≤ 64) := Lib.hid (by rw [ByteArray.size_extract]; omega)
    have Hss : Hid (s.size ≤ 64) := Lib.hid (by omega)
    have hcut := cut_run s.data.toList k (by simpa using hk) Utf.z
    rw [← head_of, ← rest_of] at hcut
    obtain ⟨⟨A, B, C⟩, bad, hpre⟩ : ∃ (u : Utf.St) (r : Option Nat), Utf.run Utf.z (s.extract 0 k).data.toList = (u, r) := ⟨_, _, rfl⟩
    rw [hpre] at hcut
    clear hr
    rcases bad with _ | m
    · simp only at hcut
      obtain ⟨⟨A2, B2, C2⟩, rest, hsuf⟩ : ∃ (u : Utf.St) (r : Option Nat), Utf.run (A, B, C) (s.extract k s.size).data.toList = (u, r) := ⟨_, _, rfl⟩
      rw [hsuf] at hcut
      simp only at hcut
      obtain ⟨all, ha1, ha2⟩ : ∃ all : Int, offI (rest.map (· + k)) = all ∧ ((rest = none ∧ all = -1) ∨ ∃ j : Nat, j < 65 ∧ rest = some j ∧ all = (k : Int) + (j : Int)) := by
        refine ⟨_, rfl, ?_⟩
        rcases hrr : rest with _ | j
        · exact .inl ⟨rfl, rfl⟩
        · refine .inr ⟨j, ?_, rfl, ?_⟩
          · have := Utf.run_bound (s.extract k s.size).data.toList (A, B, C) j (by rw [hsuf, hrr])
            have h2 := Hr.out
            have h3 : (s.extract k s.size).data.toList.length = (s.extract k s.size).size := by simp
            omega
          · show (((j + k : Nat)) : Int) = _; omega
      have H1 := Lib.hid (text_as _ 0 0 0 A B C (-1) _ hpre rfl rfl Hh.out)
      have H2 := Lib.hid (text_as _ 0 0 0 A2 B2 C2 all _ hcut rfl ha1 Hss.out)
      have H3 := Lib.hid (stext_as _ 0 0 0 A2 B2 C2 all _ hcut rfl ha1 Hss.out)
      have H4 := Lib.hid (text_as _ A B C A2 B2 C2 (offI rest) _ hsuf rfl rfl Hr.out)
      clear hpre hcut hsuf ha1
      go_wp2_with fail
      rw [hm]
      clear hm
      refine (H1.out _).mono ?_
      rintro e w3 ⟨rfl, hb3⟩
      have hl3 := hb1.trans (hb3.mono hb1.size)
      clear hb1 hb3
      go_wp2_with fail
      have hx4 := Box.fresh w3 #[.int .i64 A, .int .i64 B, .int .i64 C] 29
      have hl4 : Below w.heap.size w (w3.alloc (.cells #[.int .i64 A, .int .i64 B, .int .i64 C] 29)) := hl3.alloc hl3.size _
      generalize w3.alloc (.cells #[.int .i64 A, .int .i64 B, .int .i64 C] 29) = w4 at hx4 hl4 ⊢
      generalize w3.heap.size = g5 at hx4 ⊢
      clear hl3
      refine (H2.out _).mono ?_
      rintro e w5 ⟨rfl, hb5⟩
      have hx5 := hx4.below hb5 hx4.lt
      have hl5 := hl4.trans (hb5.mono hl4.size)
      clear hx4 hl4 hb5
      go_wp2_with fail
      have hx6 := hx5.alloc (.cells #[.int .i64 A2, .int .i64 B2, .int .i64 C2] 29)
      have hy6 := Box.fresh w5 #[.int .i64 A2, .int .i64 B2, .int .i64 C2] 29
      have hl6 : Below w.heap.size w (w5.alloc (.cells #[.int .i64 A2, .int .i64 B2, .int .i64 C2] 29)) := hl5.alloc hl5.size _
      generalize w5.alloc (.cells #[.int .i64 A2, .int .i64 B2, .int .i64 C2] 29) = w6 at hx6 hy6 hl6 ⊢
      generalize w5.heap.size = g7 at hy6 ⊢
      clear hx5 hl5
      refine (state_empty _).mono ?_
      rintro e w7 ⟨rfl, hb7⟩
      have hx7 := hx6.below hb7 hx6.lt
      have hy7 := hy6.below hb7 hy6.lt
      have hl7 := hl6.trans (hb7.mono hl6.size)
      clear hx6 hy6 hl6 hb7
      go_wp2_with fail
      refine (H3.out _).mono ?_
      rintro e w8 ⟨rfl, hb8⟩
      have hx8 := hx7.below hb8 hx7.lt
      have hy8 := hy7.below hb8 hy7.lt
      have hl8 := hl7.trans (hb8.mono hl7.size)
      clear hx7 hy7 hl7 hb8
      go_wp2_with fail
      have hx9 := hx8.alloc (.cells #[.int .i64 A2, .int .i64 B2, .int .i64 C2] 29)
      have hy9 := hy8.alloc (.cells #[.int .i64 A2, .int .i64 B2, .int .i64 C2] 29)
      have hl9 : Below w.heap.size w (w8.alloc (.cells #[.int .i64 A2, .int .i64 B2, .int .i64 C2] 29)) := hl8.alloc hl8.size _
      generalize w8.alloc (.cells #[.int .i64 A2, .int .i64 B2, .int .i64 C2] 29) = w9 at hx9 hy9 hl9 ⊢
      have hzx := hx9.lt
      have hzy := hy9.lt
      obtain ⟨c0, c1, c2, f0, f1, f2⟩ := hx9.three
      clear hx8 hy8 hl8
      go_region_with (go_at_call 19; refine (H4.out _).mono ?_; rintro e w10 ⟨rfl, hb10⟩; first | (have hq := (hx9.drew.below hb10 hzx).three) | (have hq := ((Box.fresh w9 _ _).drew.below hb10 (by simp)).three); obtain ⟨e0, e1, e2, p0, p1, p2⟩ := hq; have hz10 := hb10.size)
      all_goals
        first
        | (have KK := cutA (T := 29) hx9 hy9 hl9 hb10 #[.int .i64 A2, .int .i64 B2, .int .i64 C2]
           obtain ⟨K1, K2, hB⟩ := KK
           generalize w10.alloc (.cells #[.int .i64 A2, .int .i64 B2, .int .i64 C2] 29) = w11 at K1 K2 hB ⊢
           generalize w10.heap.size = g11 at K2 ⊢)
        | (have KK := cutB hx9 hy9 hl9 hb10 A2 B2 C2
           obtain ⟨K1, K2, hB⟩ := KK
           generalize ((w10.setCell ⟨w9.heap.size, 0, none⟩ (.int .i64 A2)).setCell ⟨w9.heap.size, 1, none⟩ (.int .i64 B2)).setCell ⟨w9.heap.size, 2, none⟩ (.int .i64 C2) = w11 at K1 K2 hB ⊢
           generalize w9.heap.size = g11 at K2 ⊢)
      all_goals
        replace K2 : Box w11 g11 [.int .i64 A2, .int .i64 B2, .int .i64 C2] := K2
        obtain ⟨d0, d1, d2, q0, q1, q2⟩ := K2.three
        obtain ⟨d3, d4, d5, q3, q4, q5⟩ := K1.three
        clear K1 K2 hb10 hx9 hy9 hl9 c0 c1 c2 f0 f1 f2 hzx hzy H1 H2 H3 H4
        rcases ha2 with ⟨rfl, rfl⟩ | ⟨j, hj, rfl, rfl⟩
        · simp only [offI]
          go_wp2_with fail
          go_ret
          exact ⟨rfl, hB⟩
        · simp only [offI]
          have hw : IntKind.i64.wrap ((k : Int) + (j : Int)) = (k : Int) + (j : Int) := IntWalk.i64_in _ (by omega)
          have hj0 : decide ((j : Int) < 0) = false := decide_eq_false (by omega)
          go_wp2_with fail
          go_ret
          exact ⟨rfl, hB⟩
    · simp only at hcut
      have H1 := Lib.hid (text_as _ 0 0 0 A B C (m : Int) _ hpre rfl rfl Hh.out)
      have H2 := Lib.hid (text_as _ 0 0 0 A B C (m : Int) _ hcut rfl rfl Hss.out)
      have H3 := Lib.hid (stext_as _ 0 0 0 A B C (m : Int) _ hcut rfl rfl Hss.out)
      have H4 := Lib.hid (state_as s A B C (by rw [hcut]) Hss.out)
      clear hpre hcut
      go_wp2_with fail
      rw [hm]
      clear hm
      refine (H1.out _).mono ?_
      rintro e w3 ⟨rfl, hb3⟩
      have hl3 := hb1.trans (hb3.mono hb1.size)
      clear hb1 hb3
      go_wp2_with fail
      have hx4 := Box.fresh w3 #[.int .i64 A, .int .i64 B, .int .i64 C] 29
      have hl4 : Below w.heap.size w (w3.alloc (.cells #[.int .i64 A, .int .i64 B, .int .i64 C] 29)) := hl3.alloc hl3.size _
      generalize w3.alloc (.cells #[.int .i64 A, .int .i64 B, .int .i64 C] 29) = w4 at hx4 hl4 ⊢
      generalize w3.heap.size = g5 at hx4 ⊢
      clear hl3
      refine (H2.out _).mono ?_
      rintro e w5 ⟨rfl, hb5⟩
      have hx5 := hx4.below hb5 hx4.lt
      have hl5 := hl4.trans (hb5.mono hl4.size)
      clear hx4 hl4 hb5
      go_wp2_with fail
      have hx6 := hx5.alloc (.cells #[.int .i64 A, .int .i64 B, .int .i64 C] 29)
      have hy6 := Box.fresh w5 #[.int .i64 A, .int .i64 B, .int .i64 C] 29
      have hl6 : Below w.heap.size w (w5.alloc (.cells #[.int .i64 A, .int .i64 B, .int .i64 C] 29)) := hl5.alloc hl5.size _
      generalize w5.alloc (.cells #[.int .i64 A, .int .i64 B, .int .i64 C] 29) = w6 at hx6 hy6 hl6 ⊢
      generalize w5.heap.size = g7 at hy6 ⊢
      clear hx5 hl5
      refine (state_empty _).mono ?_
      rintro e w7 ⟨rfl, hb7⟩
      have hx7 := hx6.below hb7 hx6.lt
      have hy7 := hy6.below hb7 hy6.lt
      have hl7 := hl6.trans (hb7.mono hl6.size)
      clear hx6 hy6 hl6 hb7
      go_wp2_with fail
      refine (H3.out _).mono ?_
      rintro e w8 ⟨rfl, hb8⟩
      have hx8 := hx7.below hb8 hx7.lt
      have hy8 := hy7.below hb8 hy7.lt
      have hl8 := hl7.trans (hb8.mono hl7.size)
      clear hx7 hy7 hl7 hb8
      have hm0 : decide ((m : Int) < 0) = false := decide_eq_false (by omega)
      have hm1 : decide ((0 : Int) ≤ (m : Int)) = true := decide_eq_true (by omega)
      go_wp2_with fail
      have hx9 := hx8.alloc (.cells #[.int .i64 A, .int .i64 B, .int .i64 C] 29)
      have hy9 := hy8.alloc (.cells #[.int .i64 A, .int .i64 B, .int .i64 C] 29)
      have hl9 : Below w.heap.size w (w8.alloc (.cells #[.int .i64 A, .int .i64 B, .int .i64 C] 29)) := hl8.alloc hl8.size _
      generalize w8.alloc (.cells #[.int .i64 A, .int .i64 B, .int .i64 C] 29) = w9 at hx9 hy9 hl9 ⊢
      have hzx := hx9.lt
      have hzy := hy9.lt
      obtain ⟨c0, c1, c2, f0, f1, f2⟩ := hx9.three
      obtain ⟨c3, c4, c5, f3, f4, f5⟩ := hy9.three
      clear hx8 hy8 hl8
      go_region_with (go_at_call 22; refine (H4.out _).mono ?_; rintro e w10 ⟨rfl, hb10⟩; have hl10 := hl9.drew.trans (hb10.mono hl9.size); obtain ⟨e0, e1, e2, p0, p1, p2⟩ := (hy9.drew.below hb10 hzy).three)
      all_goals
        go_wp2_with fail
        go_ret
        exact ⟨rfl, hl10⟩

/-! ### THE ROW's STEP: WRITTEN OUT: LEAVE IT -/
set_option maxRecDepth 100000 in
theorem lifted (os : Os) (started : os.Started) (H : Type) (enc : TypeId × Value → H) :
    ReturnsInHanded {} Try.checked os 4 .any (Rows.fnUtfCutSpec.pre6 enc Try.prog Try.f4 Rows.fnUtfCutRow.domain false) (Rows.fnUtfCutSpec.post enc Try.prog Try.f4 false true false false) := by
  refine returnsInHanded_of_change (C := Try.checked) own started (by kernel_rfl) Try.func4
    (ChangeSpec.witness6 (enc := enc) (C := Try.checked) false ⟨#[], #[.slice none 0 0], []⟩ 8 (by kernel_rfl) (by kernel_rfl) (by kernel_rfl) (by kernel_rfl)) ?_
  intro W base args ds gs before hval0 hW hcnd _
  have hval : ∀ (j : Nat) t v, Try.f4.params[j]? = some t → args[j]? = some v → Value.okWide Try.prog W .any base t v := hval0
  have hW' := hW
  obtain ⟨p, q, hA0, hV, rfl, hfz, hnd⟩ := hW
  have hA : DataW.TrodAll enc Try.prog W 0 (fun _ => true) true Try.f4.params.toList args.toList ds p := hA0
  rw [Try.params4] at hA hval
  obtain ⟨v0, vs0, d0, ds0, p0, q0, hargs, rfl, rfl, h0, r0⟩ := trodAll_cons hA
  obtain ⟨rfl, rfl, rfl⟩ := trodAll_nil r0
  obtain rfl : args = #[v0] := by cases args; simp_all
  obtain ⟨rfl, rfl⟩ := trodVars_none hV
  obtain ⟨a0, len0, cap0, rfl⟩ := okWide_slice Try.underlying22 (hval 0 22 v0 rfl rfl)
  have k0 := h0
  have lt0 : ∀ x ∈ p0, x.block < W.heap.size := by obtain ⟨m, hm⟩ := k0; exact DataW.trod_lt m _ _ _ hm
  obtain ⟨z0, w0⟩ : ∃ zs, IsRow .u8 W a0 len0 cap0 zs := by
    obtain ⟨fuel, hf⟩ := h0
    rcases open_ints Try.underlying22 Try.underlying5 (by kernel_rfl) hf with ⟨hcs, _⟩ | ⟨x, l, c, zs, hcs, _, hl, hm, hz, _, hcell, hwz⟩
    · simp [Value.cells] at hcs
      obtain ⟨rfl, rfl, rfl⟩ := hcs
      exact ⟨[], .inl ⟨rfl, rfl, rfl, rfl⟩⟩
    · simp [Value.cells] at hcs
      obtain ⟨rfl, rfl, rfl⟩ := hcs
      exact ⟨zs, .inr ⟨_, rfl, hl, hm, by simpa using hz, hcell, hwz⟩⟩
  clear hA0 hval0
  refine (walk a0 len0 cap0 z0 W w0).mono fun e W' ⟨he, bel⟩ => ?_
  subst he
  exact ⟨_, rfl, _, _, _, [], _, [], hW', trodAll_mk1 (shut_bool Try.underlying4 _), (trodAll_cons_mk (Below.trod laidOut (by kernel_rfl) (of_decide_eq_true (by kernel_rfl)) k0 bel lt0) trodAll_mk0), rfl, bel.frame _, fun h => by cases h⟩

theorem over : Rows.fnUtfCutRow.holds Try.pinned (OpenSpec.ofChange Rows.fnUtfCutSpec) :=
  OpenClaim.holds_of_wide 4 Try.f4 rfl rfl rfl rfl rfl rfl rfl ⟨rfl, rfl, rfl, rfl, rfl⟩ rfl rfl rfl rfl rfl (by kernel_rfl) Try.func4 (by kernel_rfl)
    (of_decide_eq_true (by kernel_rfl)) (by unfold Func.isWrapper; first | (rw [if_pos (by decide +kernel)]; kernel_rfl) | (rw [if_neg (by decide +kernel)]; exact ⟨rfl, rfl⟩))
    (fun os started H enc _ => lifted os started H enc)

/-- ████ THE STATEMENT ████ -/
theorem proved : Rows.FnUtfCutSaid := over
end Go.Proofs.Ytoohcepobbbejaa.fnUtfCut
