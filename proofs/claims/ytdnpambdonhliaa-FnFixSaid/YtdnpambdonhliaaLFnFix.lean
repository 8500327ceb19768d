/-
  For every code of bytes, laws.FnFix returns true: PutFix gives the reference's bytes; what it wrote is read back by GetFix and, byte by byte, by FixByte; a byte short nothing is read. No condition.
-/
import Derived.Test.YtdnpambdonhliaaRows
import Derived.WalkKit
import Derived.ProofKit
import Derived.OpenShut
import Derived.ShutString
import Derived.ChangeOld
import Derived.Below
import Derived.Test.YtdnpambdonhliaaDrawScan
import Derived.Test.YtdnpambdonhliaaGetFix
namespace Go.Proofs.Ytdnpambdonhliaa.fnFix
open Go.ChangeShapes Go.WideShapes Go.ChangeAt Go.RowKit
open Go.ChangeMaps (open_string shut_string)
set_option linter.unusedVariables false

theorem own : ownKnob Try.prog.godebug = none := by kernel_rfl
theorem laidOut : laidOutB Try.prog = true := by kernel_rfl

/-- WHAT THE WALK IS TOLD OF A SLICE OF INTEGERS THAT CAME IN: it is nil; or it leads to a row of 'cap' cells, the numbers 'zs' (the first 'len' are its elements, the rest its spare room), each fitting its kind. -/
def IsRow (k : IntKind) (w : World) (a : Option Addr) (len cap : Nat) (zs : List Int) : Prop :=
  (a = none ∧ len = 0 ∧ cap = 0 ∧ zs = []) ∨
  ∃ x, a = some x ∧ len ≤ cap ∧ cap ≤ maxLen ∧ zs.length = cap ∧ (∀ i, i < zs.length → w.cell? (x.add i) = some (.int k (zs.getD i 0))) ∧ ∀ n ∈ zs, (Lit.int k n).wf = true

/-! ### STEP 1: THE WALK: the Go text returns true, AND WRITES NOTHING THAT WAS THERE: 'Below w.heap.size w w'' (Derived/Below.lean: '.refl', '.alloc', '.drew', '.setCell' at a new block, '.trans'). Open each 'IsRow' by 'rcases' AHEAD of 'go_enter'; part every test ahead of the walk. -/
open Num in
theorem getFix_as (s : ByteArray) (a n : Int) (w : World) (hs : s.size ≤ 281474976710656) (hn : -1 ≤ n ∧ n ≤ 9) (v : Nat) (ok : Bool) (hR : getFixR s a n = (v, ok)) :
    Calls Try.prog 29 #[.string s, .int .i64 a, .int .i64 n] w fun e w' => e = .returned (.tuple #[.int .u64 v, .bool ok]) ∧ Below w.heap.size w w' :=
  (implGetFix_any s a n w hs (by omega)).mono fun e w' ⟨he, hB⟩ => ⟨by rw [he, hR], hB⟩
open Num in
theorem abc_get (n : Int) : getFixR ⟨#[97, 98, 99, 100, 101, 102, 103, 104]⟩ 0 n = ((getFixR ⟨#[97, 98, 99, 100, 101, 102, 103, 104]⟩ 0 n).1, decide (n = 4 ∨ n = 8)) := by
  by_cases h : n = 4 ∨ n = 8
  · rcases h with rfl | rfl <;> rfl
  · rw [getFix_no (fun h2 => h h2.1), decide_eq_false h]
open Num in
set_option maxHeartbeats 1600000 in
set_option maxRecDepth 100000 in
theorem walk (a0 : Option Addr) (len0 cap0 : Nat) (z0 : List Int) (w : World) (w0 : IsRow .u8 w a0 len0 cap0 z0) :
    Calls Try.prog 6 #[.slice a0 len0 cap0] w fun e w' => e = .returned (.bool true) ∧ Below w.heap.size w w' := by
  by_cases hb : 1048576 < len0
  · clear w0
    go_enter Try.func6, Try.ntmps6
    go_wp2
    go_ret
    exact ⟨rfl, Below.refl _ _⟩
  · have hcode := codeOf w0 (by omega)
    have Hcode := Lib.hid hcode
    clear w0 hcode
    go_enter Try.func6, Try.ntmps6
    go_wp2_with (go_at_call 14; go_in)
    refine (drawPutFix_any a0 len0 cap0 _ Hcode.out).mono ?_
    rintro e w1 ⟨u, n, hu, hn0, hn1, rfl, hb1⟩
    have Hu := Lib.hid hu
    clear hu
    go_wp2_with fail
    refine (implPutFix_any u n _ Hu.out).mono ?_
    rintro e w2 ⟨rfl, hb2⟩
    have hb12 := hb1.trans (hb2.mono hb1.size)
    clear hb1 hb2
    by_cases hin : (n = 4 ∨ n = 8) ∧ u < 256 ^ n.toNat
    · obtain ⟨N, rfl⟩ := Int.eq_ofNat_of_zero_le (show 0 ≤ n by omega)
      have hN : N = 4 ∨ N = 8 := by omega
      have hlt : u < 256 ^ N := by simpa using hin.2
      have Hyes : Hid (fixS u (N : Int) = ⟨(Fix.leb N u).toArray⟩) := Lib.hid (by rw [fixS_yes hin, Int.toNat_natCast])
      have Hsp := Lib.hid (specPutFix_in u N · Hu.out hN hlt)
      have Hback := Lib.hid (Fix.le_leb N u hlt)
      have Hlen := Lib.hid (Fix.leb_length N u)
      rw [Hyes.out]
      generalize Fix.leb N u = l at Hsp Hback Hlen
      have hsz : (ByteArray.mk l.toArray).size = N := by simp [ByteArray.size, Hlen.out]
      have hl : (ByteArray.mk l.toArray).data.toList = l := by simp
      generalize ByteArray.mk l.toArray = s at hsz hl Hsp
      have Hl := Lib.hid hl
      have hN4 : 4 ≤ N := by omega
      have hN8 : N ≤ 8 := by omega
      have hse : s.toList.isEmpty = false := by
        rw [ByteArray.toList_eq, hl]
        cases l with
        | nil => have := Hlen.out; simp at this; omega
        | cons => rfl
      have Hg1 : Hid (getFixR (⟨#[97]⟩ ++ s) 1 N = (u, true)) := Lib.hid (by
        have hsz2 : ((⟨#[97]⟩ : ByteArray) ++ s).size = 1 + N := by rw [ByteArray.size_append, hsz]; rfl
        rw [getFix_yes ⟨by omega, by omega, by rw [hsz2]; omega⟩, Int.toNat_natCast]
        have e : ((⟨#[97]⟩ : ByteArray) ++ s).data.toList = 97 :: l := by rw [ByteArray.data_append, Array.toList_append, hl]; rfl
        rw [e, show List.drop (1 : Int).toNat (97 :: l) = l from rfl, List.take_of_length_le (by rw [Hlen.out]; exact Nat.le_refl _), Hback.out])
      have Hg2 : Hid (getFixR s 1 N = (0, false)) := Lib.hid (by rw [getFix_no (by rw [hsz]; omega)])
      have Hs2 : Hid (((⟨#[97]⟩ : ByteArray) ++ s).size ≤ 281474976710656) := Lib.hid (by rw [ByteArray.size_append, hsz]; have : (⟨#[97]⟩ : ByteArray).size = 1 := rfl; omega)
      have Hs1 : Hid (s.size ≤ 281474976710656) := Lib.hid (by omega)
      have HnB : Hid (-1 ≤ (N : Int) ∧ (N : Int) ≤ 9) := Lib.hid (by omega)
      have Hsz := Lib.hid hsz
      have hs8 : s.size ≤ 8 := by omega
      clear hin hN hlt hl hn0 hn1 hsz
      go_wp2_with fail
      refine (Hsp.out _).mono ?_
      rintro e w3 ⟨rfl, hb3⟩
      have hb13 := hb12.trans (hb3.mono hb12.size)
      clear hb12 hb3
      go_wp2_with fail
      refine (getFix_as _ 1 N _ Hs2.out HnB.out u true Hg1.out).mono ?_
      rintro e w4 ⟨rfl, hb4⟩
      have hb14 := hb13.trans (hb4.mono hb13.size)
      have hz4 := hb14.size
      clear hb13 hb4
      go_wp2_with fail
      go_loopw [11] (fun i wr => ∃ k : Nat, k ≤ N ∧ i = .int .i64 k ∧ Hid (Box wr w4.heap.size [.int .u64 ((Fix.le (l.take k) : Nat) : Int), .int .i64 k]) ∧ Below w.heap.size w wr) (fun i _ => N - (intOf i).toNat)
      case atStart => exact ⟨0, by omega, rfl, Lib.hid (Box.fresh _ _ _), hb14.alloc hz4 _⟩
      case round =>
        obtain ⟨k, hk, rfl, hbx, hbl⟩ := hrel
        have hz0 := hbx.out.lt
        have hszi : (s.size : Int) = (N : Int) := by rw [Hsz.out]
        by_cases hlt : k < N
        · have hks : k < s.size := by omega
          have hksi : (k : Int) < (s.size : Int) := by omega
          have hc : s[k].toNat < 256 := s[k].toNat_lt
          have hw8 : IntKind.i64.wrap (s[k].toNat : Int) = (s[k].toNat : Int) := IntWalk.i64_in _ (by omega)
          have htk : l.take (k + 1) = l.take k ++ [s[k]] := by
            have h2 : k < l.length := by rw [Hlen.out]; exact hlt
            rw [List.take_succ_eq_append_getElem h2]
            congr 2
            have h3 : s[k] = s.data[k]'hks := rfl
            rw [h3, ← Array.getElem_toList]
            simp only [Hl.out]
          have hlk : (l.take k).length = k := by rw [List.length_take, Hlen.out]; omega
          have Hst : Hid (fixByteR (Fix.le (l.take k)) (k : Int) (s[k].toNat : Int) = (((Fix.le (l.take (k + 1)) : Nat) : Int), ((k : Int) + 1))) := Lib.hid (by
            have h := fixStep (l.take k) s[k] (by rw [hlk]; omega)
            rw [← htk, hlk, List.length_take, Hlen.out, show min (k + 1) N = k + 1 by omega] at h
            rw [h]; rfl)
          obtain ⟨V', hV'⟩ : ∃ V' : Nat, V' = Fix.le (l.take (k + 1)) := ⟨_, rfl⟩
          obtain ⟨V, hV⟩ : ∃ V : Nat, V = Fix.le (l.take k) := ⟨_, rfl⟩
          rw [← hV', ← hV] at Hst
          rw [← hV] at hbx
          obtain ⟨c0, c1, f0, f1⟩ := hbx.out.two
          have HV' := Lib.hid hV'
          clear hV' hV htk hlk hszi
          go_wp2_with fail
          go_region_with (go_at_call 30; refine (implFixByte_any V (k : Int) s[k].toNat _).mono ?_; rw [Hst.out]; rintro e w5 ⟨rfl, hb5⟩; have hq := (hbx.out.drew.below hb5 hz0).two; obtain ⟨e0, e1, p0, p1⟩ := hq)
          all_goals
            go_wp2_with fail
            refine ⟨⟨k + 1, by omega, by go_num, Lib.hid ?_, ?_⟩, by simp [intOf] <;> omega⟩
            · rw [← HV'.out]; exact ((hbx.out.drew.below hb5 hz0).set 0 _).set 1 _
            · have hb2 : Below w.heap.size w w5 := hbl.drew.trans (hb5.mono hbl.size)
              repeat (first | exact hb2 | refine Below.setCell ?_ (by simp; omega) _)
        · have hkN : k = N := by omega
          have Hle : Hid (Fix.le (l.take k) = u) := Lib.hid (by rw [hkN, List.take_of_length_le (by rw [Hlen.out]; exact Nat.le_refl _), Hback.out])
          rw [Hle.out] at hbx
          obtain ⟨c0, c1, f0, f1⟩ := hbx.out.two
          have hend : decide (k < s.size) = false := decide_eq_false (by rw [Hsz.out]; exact hlt)
          have hendi : (s.size : Int) ≤ (k : Int) := by omega
          have hkn : ((k : Int) == (N : Int)) = true := by rw [beq_iff_eq, hkN]
          have hkn2 : (k == N) = true := by rw [beq_iff_eq, hkN]
          clear hkN hlt hszi
          go_wp2_with fail
          refine (getFix_as _ 1 N _ Hs1.out HnB.out 0 false Hg2.out).mono ?_
          rintro e w5 ⟨rfl, hb5⟩
          have hq := (hbx.out.below hb5 hz0).two
          obtain ⟨e0, e1, p0, p1⟩ := hq
          have hb15 := hbl.trans (hb5.mono hbl.size)
          clear hb5 c0 c1 f0 f1
          go_wp2_with fail
          go_ret
          exact ⟨rfl, hb15⟩
    · have Hno := Lib.hid (fixS_no hin)
      have HnB : Hid (-1 ≤ n ∧ n ≤ 9) := Lib.hid ⟨hn0, hn1⟩
      have Habc := Lib.hid (abc_get n)
      have h8 : Hid ((⟨#[97, 98, 99, 100, 101, 102, 103, 104]⟩ : ByteArray).size ≤ 281474976710656) := Lib.hid (by have : (⟨#[97, 98, 99, 100, 101, 102, 103, 104]⟩ : ByteArray).size = 8 := rfl; omega)
      rw [Hno.out]
      clear hin
      go_wp2_with fail
      refine (specPutFix_any u n _ Hu.out).mono ?_
      rw [Hno.out]
      rintro e w3 ⟨rfl, hb3⟩
      have hb13 := hb12.trans (hb3.mono hb12.size)
      clear hb12 hb3
      go_wp2_with fail
      refine (getFix_as _ 0 n _ h8.out HnB.out _ _ Habc.out).mono ?_
      rintro e w4 ⟨rfl, hb4⟩
      have hb14 := hb13.trans (hb4.mono hb13.size)
      clear hb13 hb4
      generalize (getFixR ⟨#[97, 98, 99, 100, 101, 102, 103, 104]⟩ 0 n).1 = V
      by_cases h4 : n = 4
      · subst h4
        go_wp2_with fail
        go_ret
        exact ⟨rfl, hb14⟩
      · by_cases h8 : n = 8
        · subst h8
          go_wp2_with fail
          go_ret
          exact ⟨rfl, hb14⟩
        · have h4b : (n == 4) = false := by rw [beq_eq_false_iff_ne]; exact h4
          have h8b : (n == 8) = false := by rw [beq_eq_false_iff_ne]; exact h8
          rw [decide_eq_false (show ¬ (n = 4 ∨ n = 8) by omega)]
          clear h4 h8
          go_wp2_with fail
          go_ret
          exact ⟨rfl, hb14⟩

/-! ### THE ROW's STEP: WRITTEN OUT: LEAVE IT -/
set_option maxRecDepth 100000 in
theorem lifted (os : Os) (started : os.Started) (H : Type) (enc : TypeId × Value → H) :
    ReturnsInHanded {} Try.checked os 6 .any (Rows.fnFixSpec.pre6 enc Try.prog Try.f6 Rows.fnFixRow.domain false) (Rows.fnFixSpec.post enc Try.prog Try.f6 false true false false) := by
  refine returnsInHanded_of_change (C := Try.checked) own started (by kernel_rfl) Try.func6
    (ChangeSpec.witness6 (enc := enc) (C := Try.checked) false ⟨#[], #[.slice none 0 0], []⟩ 8 (by kernel_rfl) (by kernel_rfl) (by kernel_rfl) (by kernel_rfl)) ?_
  intro W base args ds gs before hval0 hW hcnd _
  have hval : ∀ (j : Nat) t v, Try.f6.params[j]? = some t → args[j]? = some v → Value.okWide Try.prog W .any base t v := hval0
  have hW' := hW
  obtain ⟨p, q, hA0, hV, rfl, hfz, hnd⟩ := hW
  have hA : DataW.TrodAll enc Try.prog W 0 (fun _ => true) true Try.f6.params.toList args.toList ds p := hA0
  rw [Try.params6] at hA hval
  obtain ⟨v0, vs0, d0, ds0, p0, q0, hargs, rfl, rfl, h0, r0⟩ := trodAll_cons hA
  obtain ⟨rfl, rfl, rfl⟩ := trodAll_nil r0
  obtain rfl : args = #[v0] := by cases args; simp_all
  obtain ⟨rfl, rfl⟩ := trodVars_none hV
  obtain ⟨a0, len0, cap0, rfl⟩ := okWide_slice Try.underlying22 (hval 0 22 v0 rfl rfl)
  have k0 := h0
  have lt0 : ∀ x ∈ p0, x.block < W.heap.size := by obtain ⟨m, hm⟩ := k0; exact DataW.trod_lt m _ _ _ hm
  obtain ⟨z0, w0⟩ : ∃ zs, IsRow .u8 W a0 len0 cap0 zs := by
    obtain ⟨fuel, hf⟩ := h0
    rcases open_ints Try.underlying22 Try.underlying5 (by kernel_rfl) hf with ⟨hcs, _⟩ | ⟨x, l, c, zs, hcs, _, hl, hm, hz, _, hcell, hwz⟩
    · simp [Value.cells] at hcs
      obtain ⟨rfl, rfl, rfl⟩ := hcs
      exact ⟨[], .inl ⟨rfl, rfl, rfl, rfl⟩⟩
    · simp [Value.cells] at hcs
      obtain ⟨rfl, rfl, rfl⟩ := hcs
      exact ⟨zs, .inr ⟨_, rfl, hl, hm, by simpa using hz, hcell, hwz⟩⟩
  clear hA0 hval0
  refine (walk a0 len0 cap0 z0 W w0).mono fun e W' ⟨he, bel⟩ => ?_
  subst he
  exact ⟨_, rfl, _, _, _, [], _, [], hW', trodAll_mk1 (shut_bool Try.underlying4 _), (trodAll_cons_mk (Below.trod laidOut (by kernel_rfl) (of_decide_eq_true (by kernel_rfl)) k0 bel lt0) trodAll_mk0), rfl, bel.frame _, fun h => by cases h⟩

theorem over : Rows.fnFixRow.holds Try.pinned (OpenSpec.ofChange Rows.fnFixSpec) :=
  OpenClaim.holds_of_wide 6 Try.f6 rfl rfl rfl rfl rfl rfl rfl ⟨rfl, rfl, rfl, rfl, rfl⟩ rfl rfl rfl rfl rfl (by kernel_rfl) Try.func6 (by kernel_rfl)
    (of_decide_eq_true (by kernel_rfl)) (by unfold Func.isWrapper; first | (rw [if_pos (by decide +kernel)]; kernel_rfl) | (rw [if_neg (by decide +kernel)]; exact ⟨rfl, rfl⟩))
    (fun os started H enc _ => lifted os started H enc)

/-- ████ THE STATEMENT ████ -/
theorem proved : Rows.FnFixSaid := over
end Go.Proofs.Ytdnpambdonhliaa.fnFix
