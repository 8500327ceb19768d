/-
  For every code of bytes, laws.FnScanCut returns true: a varint that is cut in two pieces anywhere and read piece by piece ends in the same state as read at once. No condition.
-/
import Derived.Test.YtdnpambdonhliaaRows
import Derived.WalkKit
import Derived.ProofKit
import Derived.OpenShut
import Derived.ShutString
import Derived.ChangeOld
import Derived.Below
import Derived.Test.YtdnpambdonhliaaDrawVar
import Derived.Test.YtdnpambdonhliaaScanTextI
import Derived.Test.YtdnpambdonhliaaScanLink
import Derived.Test.YtdnpambdonhliaaAt0
namespace Go.Proofs.Ytdnpambdonhliaa.fnScanCut
open Go.ChangeShapes Go.WideShapes Go.ChangeAt Go.RowKit
open Go.ChangeMaps (open_string shut_string)
set_option linter.unusedVariables false

theorem own : ownKnob Try.prog.godebug = none := by kernel_rfl
theorem laidOut : laidOutB Try.prog = true := by kernel_rfl

/-- WHAT THE WALK IS TOLD OF A SLICE OF INTEGERS THAT CAME IN: it is nil; or it leads to a row of 'cap' cells, the numbers 'zs' (the first 'len' are its elements, the rest its spare room), each fitting its kind. -/
def IsRow (k : IntKind) (w : World) (a : Option Addr) (len cap : Nat) (zs : List Int) : Prop :=
  (a = none ∧ len = 0 ∧ cap = 0 ∧ zs = []) ∨
  ∃ x, a = some x ∧ len ≤ cap ∧ cap ≤ maxLen ∧ zs.length = cap ∧ (∀ i, i < zs.length → w.cell? (x.add i) = some (.int k (zs.getD i 0))) ∧ ∀ n ∈ zs, (Lit.int k n).wf = true

/-! ### STEP 1: THE WALK: the Go text returns true, AND WRITES NOTHING THAT WAS THERE: 'Below w.heap.size w w'' (Derived/Below.lean: '.refl', '.alloc', '.drew', '.setCell' at a new block, '.trans'). Open each 'IsRow' by 'rcases' AHEAD of 'go_enter'; part every test ahead of the walk. -/
open Num in
theorem rest_of (s : ByteArray) (A : Nat) : (s.extract A s.size).data.toList = s.data.toList.drop A := by
  rw [ByteArray.data_extract, Array.toList_extract]
  simp only [List.extract]
  exact List.take_of_length_le (by simp)
open Num in
theorem head_of (s : ByteArray) (A : Nat) : (s.extract 0 A).data.toList = s.data.toList.take A := by
  rw [ByteArray.data_extract, Array.toList_extract]
  simp [List.extract]
open Num in
theorem scanText_as (t : ByteArray) (b : Nat) (h : Int) (w : World) (hb : b ≤ 18446744073709551615) (ht : t.size ≤ 281474976710656) (V : Nat) (H : Int) (n : Nat) (C : Int) (hR : scanTextR b h t.data.toList = (V, H, n, C)) :
    Calls Try.prog 17 #[.agg #[.int .u64 b, .int .i64 h], .string t] w fun e w' => e = .returned (.tuple #[.agg #[.int .u64 V, .int .i64 H], .int .i64 n, .int .i64 C]) ∧ Below w.heap.size w w' :=
  (implScanText_any b h t w hb ht).mono fun e w' ⟨he, hB⟩ => ⟨by rw [he, hR]; rfl, hB⟩
open Num in
theorem endA1 {w0 wr w1 : World} (hl : Below w0.heap.size w0 wr) (hb : Below wr.drew.heap.size wr.drew w1) (o : Array Value) (T : TypeId) : Box (w1.alloc (.cells o T)) w1.heap.size o.toList ∧ Below w0.heap.size w0 (w1.alloc (.cells o T)) := by
  have h2 : Below w0.heap.size w0 w1 := hl.drew.trans (hb.mono hl.size)
  exact ⟨Box.fresh _ _ _, h2.alloc h2.size _⟩
open Num in
theorem endB1 {w0 wr w1 : World} {T : TypeId} {x y : Value} (hl : Below w0.heap.size w0 wr) (hb : Below (wr.alloc (.cells #[x, y] T)).drew.heap.size (wr.alloc (.cells #[x, y] T)).drew w1) (a b : Value) :
    Box ((w1.setCell ⟨wr.heap.size, 0, none⟩ a).setCell ⟨wr.heap.size, 1, none⟩ b) wr.heap.size [a, b] ∧ Below w0.heap.size w0 ((w1.setCell ⟨wr.heap.size, 0, none⟩ a).setCell ⟨wr.heap.size, 1, none⟩ b) := by
  have h3 := hl.size
  have h2 : Below w0.heap.size w0 w1 := (hl.alloc hl.size _).drew.trans (hb.mono (by simp; omega))
  exact ⟨(((Box.fresh wr _ _).drew.below hb (by simp)).set 0 _).set 1 _, (h2.setCell (by simp; omega) _).setCell (by simp; omega) _⟩
open Num in
set_option maxHeartbeats 1600000 in
theorem walk (a0 : Option Addr) (len0 cap0 : Nat) (z0 : List Int) (w : World) (w0 : IsRow .u8 w a0 len0 cap0 z0) :
    Calls Try.prog 4 #[.slice a0 len0 cap0] w fun e w' => e = .returned (.bool true) ∧ Below w.heap.size w w' := by
  by_cases hb : 1048576 < len0
  · clear w0
    go_enter Try.func4, Try.ntmps4
    go_wp2
    go_ret
    exact ⟨rfl, Below.refl _ _⟩
  · have hcode := codeOf w0 (by omega)
    have Hcode := Lib.hid hcode
    clear w0 hcode
    go_enter Try.func4, Try.ntmps4
    go_wp2_with (go_at_call 14; go_in)
    refine (drawPutVar_any a0 len0 cap0 _ Hcode.out).mono ?_
    rintro e w1 ⟨u, hu, rfl, hb1⟩
    have Hu := Lib.hid hu
    have hl10 := Var.varLen_64 hu
    have hz1 := hb1.size
    clear hu
    go_wp2_with fail
    refine (specPutVar_any u _ Hu.out).mono ?_
    rintro e w2 ⟨rfl, hb2⟩
    have hz2 := hb2.size
    have hb12 := hb1.trans (hb2.mono hz1)
    clear hb1 hb2
    have hsz : (varS u).size = Var.varLen u := by unfold varS ByteArray.size; simp only [List.size_toArray, Var.put_length]
    have Hlist : Hid ((varS u).data.toList = Var.put u) := Lib.hid rfl
    generalize varS u = t at hsz Hlist
    have Hsz := Lib.hid hsz
    have ht10 : t.size ≤ 10 := by omega
    clear hsz hl10
    go_wp2_with fail
    refine (at0_any a0 len0 cap0 _ 2 _ (Hcode.out.below hb12) (by omega)).mono ?_
    rintro e w3 ⟨r, hr, rfl, rfl⟩
    have hm : (r : Int) % ((t.size : Int) + 1) = ((r % (t.size + 1) : Nat) : Int) := by simp
    have hk : r % (t.size + 1) ≤ t.size := by have := Nat.mod_lt r (show 0 < t.size + 1 by omega); omega
    generalize r % (t.size + 1) = k at hm hk
    have hi0 : (0 : Int) ≤ (k : Int) := by omega
    have hi1 : (k : Int) ≤ (t.size : Int) := by omega
    have Hh : Hid ((t.extract 0 k).size ≤ 281474976710656) := Lib.hid (by rw [ByteArray.size_extract]; omega)
    have Hr : Hid ((t.extract k t.size).size ≤ 281474976710656) := Lib.hid (by rw [ByteArray.size_extract]; omega)
    have Htt : Hid (t.size ≤ 281474976710656) := Lib.hid (by omega)
    clear hr
    by_cases hlt : k < Var.varLen u
    · obtain ⟨V, hV, h1, h2⟩ := scanText_cut u k Hu.out hlt
      have H1 : Hid (scanTextR 0 0 (t.extract 0 k).data.toList = (V, (k : Int), k, 0)) := Lib.hid (by rw [head_of, Hlist.out]; exact h1)
      have H2 : Hid (scanTextR V (k : Int) (t.extract k t.size).data.toList = (u, (Var.varLen u : Int), Var.varLen u - k, 1)) := Lib.hid (by rw [rest_of, Hlist.out]; exact h2)
      have H3 : Hid (scanTextR 0 0 t.data.toList = (u, (Var.varLen u : Int), Var.varLen u, 1)) := Lib.hid (by rw [Hlist.out]; exact scanText_put u Hu.out)
      have HV := Lib.hid hV
      have hne : ((k : Int) == (t.size : Int)) = false := by rw [beq_eq_false_iff_ne]; have := Hsz.out; omega
      have hsub : (((Var.varLen u - k : Nat) : Int) == (t.size : Int) - (k : Int)) = true := by rw [beq_iff_eq]; have := Hsz.out; omega
      clear hlt h1 h2 hV
      go_wp2_with fail
      rw [hm]
      clear hm
      refine (scanText_as _ 0 0 _ (by omega) Hh.out _ _ _ _ H1.out).mono ?_
      rintro e w3 ⟨rfl, hb3⟩
      have hb13 := hb12.trans (hb3.mono (by omega))
      have hz3 := hb13.size
      clear hb12 hb3
      have hbx : Hid (Box (w3.alloc (.cells #[.int .u64 V, .int .i64 k] 30)) w3.heap.size [.int .u64 V, .int .i64 k]) := Lib.hid (Box.fresh _ _ _)
      have hb14 : Below w.heap.size w (w3.alloc (.cells #[.int .u64 V, .int .i64 k] 30)) := hb13.alloc hz3 _
      go_wp2_with fail
      generalize w3.alloc (.cells #[.int .u64 V, .int .i64 k] 30) = wr at hbx hb14 ⊢
      generalize w3.heap.size = g5 at hbx ⊢
      have hz0 := hbx.out.lt
      obtain ⟨c0, c1, f0, f1⟩ := hbx.out.two
      clear hb13 hz3 hz1 hz2
      go_region_with (go_at_call 17; refine (scanText_as _ V (k : Int) _ HV.out Hr.out _ _ _ _ H2.out).mono ?_; rintro e w4 ⟨rfl, hb4⟩; first | (have hq := (hbx.out.drew.below hb4 hz0).two) | (have hq := ((Box.fresh wr _ _).drew.below hb4 (by simp)).two); obtain ⟨e0, e1, p0, p1⟩ := hq; have hz4 := hb4.size)
      all_goals
        first
        | (have KK := endA1 hb14 hb4 #[.int .u64 u, .int .i64 (Var.varLen u)] 30
           obtain ⟨K2, hB⟩ := KK
           generalize w4.alloc (.cells #[.int .u64 u, .int .i64 (Var.varLen u)] 30) = w5 at K2 hB ⊢
           generalize w4.heap.size = g8 at K2 ⊢)
        | (have KK := endB1 hb14 hb4 (.int .u64 u) (.int .i64 (Var.varLen u))
           obtain ⟨K2, hB⟩ := KK
           generalize (w4.setCell ⟨wr.heap.size, 0, none⟩ (.int .u64 u)).setCell ⟨wr.heap.size, 1, none⟩ (.int .i64 (Var.varLen u)) = w5 at K2 hB ⊢
           generalize wr.heap.size = g8 at K2 ⊢)
      all_goals
        replace K2 : Box w5 g8 [.int .u64 u, .int .i64 (Var.varLen u)] := K2
        obtain ⟨d0, d1, q0, q1⟩ := K2.two
        have HK := Lib.hid K2
        have hz5 := K2.lt
        clear K2 hb4 hb14 c0 c1 f0 f1 hbx hz0
        go_wp2_with fail
        refine (scanText_as _ 0 0 _ (by omega) Htt.out _ _ _ _ H3.out).mono ?_
        rintro e w6 ⟨rfl, hb6⟩
        have hb16 := hB.trans (hb6.mono hB.size)
        have hq6 := (HK.out.below hb6 hz5)
        have hz6 := hq6.lt
        obtain ⟨e0, e1, p0, p1⟩ := hq6.two
        clear hb6 d0 d1 q0 q1
        go_wp2_with fail
        go_ret
        exact ⟨rfl, hb16.alloc hb16.size _⟩
    · have hk2 : k = t.size := by have := Hsz.out; omega
      have H3 : Hid (scanTextR 0 0 (t.extract 0 k).data.toList = (u, (Var.varLen u : Int), Var.varLen u, 1)) := Lib.hid (by rw [head_of, List.take_of_length_le (by simp; omega), Hlist.out]; exact scanText_put u Hu.out)
      have hke : ((k : Int) == (t.size : Int)) = true := by rw [beq_iff_eq]; omega
      have hkv : ((Var.varLen u : Int) == (k : Int)) = true := by rw [beq_iff_eq]; have := Hsz.out; omega
      have hkv2 : (Var.varLen u == k) = true := by rw [beq_iff_eq]; have := Hsz.out; omega
      clear hk2 hlt
      go_wp2_with fail
      rw [hm]
      clear hm
      refine (scanText_as _ 0 0 _ (by omega) Hh.out _ _ _ _ H3.out).mono ?_
      rintro e w3 ⟨rfl, hb3⟩
      have hb13 := hb12.trans (hb3.mono (by omega))
      have hz3 := hb13.size
      go_wp2_with fail
      go_ret
      exact ⟨rfl, hb13.alloc hz3 _⟩

/-! ### THE ROW's STEP: WRITTEN OUT: LEAVE IT -/
set_option maxRecDepth 100000 in
theorem lifted (os : Os) (started : os.Started) (H : Type) (enc : TypeId × Value → H) :
    ReturnsInHanded {} Try.checked os 4 .any (Rows.fnScanCutSpec.pre6 enc Try.prog Try.f4 Rows.fnScanCutRow.domain false) (Rows.fnScanCutSpec.post enc Try.prog Try.f4 false true false false) := by
  refine returnsInHanded_of_change (C := Try.checked) own started (by kernel_rfl) Try.func4
    (ChangeSpec.witness6 (enc := enc) (C := Try.checked) false ⟨#[], #[.slice none 0 0], []⟩ 8 (by kernel_rfl) (by kernel_rfl) (by kernel_rfl) (by kernel_rfl)) ?_
  intro W base args ds gs before hval0 hW hcnd _
  have hval : ∀ (j : Nat) t v, Try.f4.params[j]? = some t → args[j]? = some v → Value.okWide Try.prog W .any base t v := hval0
  have hW' := hW
  obtain ⟨p, q, hA0, hV, rfl, hfz, hnd⟩ := hW
  have hA : DataW.TrodAll enc Try.prog W 0 (fun _ => true) true Try.f4.params.toList args.toList ds p := hA0
  rw [Try.params4] at hA hval
  obtain ⟨v0, vs0, d0, ds0, p0, q0, hargs, rfl, rfl, h0, r0⟩ := trodAll_cons hA
  obtain ⟨rfl, rfl, rfl⟩ := trodAll_nil r0
  obtain rfl : args = #[v0] := by cases args; simp_all
  obtain ⟨rfl, rfl⟩ := trodVars_none hV
  obtain ⟨a0, len0, cap0, rfl⟩ := okWide_slice Try.underlying22 (hval 0 22 v0 rfl rfl)
  have k0 := h0
  have lt0 : ∀ x ∈ p0, x.block < W.heap.size := by obtain ⟨m, hm⟩ := k0; exact DataW.trod_lt m _ _ _ hm
  obtain ⟨z0, w0⟩ : ∃ zs, IsRow .u8 W a0 len0 cap0 zs := by
    obtain ⟨fuel, hf⟩ := h0
    rcases open_ints Try.underlying22 Try.underlying5 (by kernel_rfl) hf with ⟨hcs, _⟩ | ⟨x, l, c, zs, hcs, _, hl, hm, hz, _, hcell, hwz⟩
    · simp [Value.cells] at hcs
      obtain ⟨rfl, rfl, rfl⟩ := hcs
      exact ⟨[], .inl ⟨rfl, rfl, rfl, rfl⟩⟩
    · simp [Value.cells] at hcs
      obtain ⟨rfl, rfl, rfl⟩ := hcs
      exact ⟨zs, .inr ⟨_, rfl, hl, hm, by simpa using hz, hcell, hwz⟩⟩
  clear hA0 hval0
  refine (walk a0 len0 cap0 z0 W w0).mono fun e W' ⟨he, bel⟩ => ?_
  subst he
  exact ⟨_, rfl, _, _, _, [], _, [], hW', trodAll_mk1 (shut_bool Try.underlying4 _), (trodAll_cons_mk (Below.trod laidOut (by kernel_rfl) (of_decide_eq_true (by kernel_rfl)) k0 bel lt0) trodAll_mk0), rfl, bel.frame _, fun h => by cases h⟩

theorem over : Rows.fnScanCutRow.holds Try.pinned (OpenSpec.ofChange Rows.fnScanCutSpec) :=
  OpenClaim.holds_of_wide 4 Try.f4 rfl rfl rfl rfl rfl rfl rfl ⟨rfl, rfl, rfl, rfl, rfl⟩ rfl rfl rfl rfl rfl (by kernel_rfl) Try.func4 (by kernel_rfl)
    (of_decide_eq_true (by kernel_rfl)) (by unfold Func.isWrapper; first | (rw [if_pos (by decide +kernel)]; kernel_rfl) | (rw [if_neg (by decide +kernel)]; exact ⟨rfl, rfl⟩))
    (fun os started H enc _ => lifted os started H enc)

/-- ████ THE STATEMENT ████ -/
theorem proved : Rows.FnScanCutSaid := over
end Go.Proofs.Ytdnpambdonhliaa.fnScanCut
