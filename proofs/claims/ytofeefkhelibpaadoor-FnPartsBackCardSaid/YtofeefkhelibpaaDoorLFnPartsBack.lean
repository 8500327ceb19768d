/-
  For every code of bytes, laws.FnPartsBack returns true: the parts with the byte between them are the string again, and there are as many as the reference gives. The card ties the listed library tables to the program's text. No other condition.
-/
import Derived.Test.YtofeefkhelibpaaDoorRows
import Derived.WalkKit
import Derived.ProofKit
import Derived.OpenShut
import Derived.ShutString
import Derived.ChangeOld
import Derived.Below
import Derived.Test.YtofeefkhelibpaaDoorCards
import Derived.Test.YtofeefkhelibpaaDoorTie
import Derived.Deep.DeepHandedRow
import Derived.Lib.LaidTab
import Derived.LaidMore
import Derived.Stop.LaidErr
import Derived.Test.YtofeefkhelibpaaDoorParts
import Derived.Test.YtofeefkhelibpaaDoorDrawParts
import Derived.Deep.RegionWith
namespace Go.Proofs.YtofeefkhelibpaaDoor.fnPartsBack
open Go.ChangeShapes Go.WideShapes Go.ChangeAt Go.RowKit
open Go.ChangeMaps (open_string shut_string)
set_option linter.unusedVariables false

theorem own : ownKnob Tryd.prog.godebug = none := by kernel_rfl
theorem laidOut : laidOutB Tryd.prog = true := by kernel_rfl
def IsRow (k : IntKind) (w : World) (a : Option Addr) (len cap : Nat) (zs : List Int) : Prop :=
  (a = none ∧ len = 0 ∧ cap = 0 ∧ zs = []) ∨
  ∃ x, a = some x ∧ len ≤ cap ∧ cap ≤ maxLen ∧ zs.length = cap ∧ (∀ i, i < zs.length → w.cell? (x.add i) = some (.int k (zs.getD i 0))) ∧ ∀ n ∈ zs, (Lit.int k n).wf = true
open Num
/-- What Parts gives, written out: the first part, the others, their cells. -/
theorem partsIs {f : FuncId} {s : ByteArray} {b : UInt8} {w : World} (h : Calls Tryd.prog f #[.string s, .int .u8 b.toNat] w (PartsP s b w)) (hs : s.size ≤ 8) :
    Calls Tryd.prog f #[.string s, .int .u8 b.toNat] w fun e w' => ∃ (P : List ByteArray) (g c : Nat), e = .returned (.slice (some ⟨g, 0, none⟩) P.length c) ∧ strL P = partsF b s.data.toList ∧ 0 < P.length ∧ P.length ≤ 9 ∧ g < w'.heap.size ∧
      (∀ j (hj : j < P.length), w'.cell? ⟨g, j, none⟩ = some (.string P[j])) ∧ Below w.heap.size w w' := by
  refine h.mono fun e w' ⟨v, P, he, hP, hown, hb⟩ => ?_
  have hP0 : 0 < P.length := by
    cases P with
    | nil => unfold strL at hP; rw [List.map_nil] at hP; exact absurd hP.symm (partsF_ne _ _)
    | cons _ _ => simp
  have hPn : P.length ≤ 9 := by
    have h2 := partsF_length b s.data.toList
    have h3 := congrArg List.length hP
    unfold strL at h3
    rw [List.length_map] at h3
    have h4 : s.data.toList.length = s.size := by simp
    omega
  obtain ⟨g, c, rfl, hg, hg', hr⟩ := readOwn hown hP0
  refine ⟨P, g, c, he, hP, hP0, hPn, hg', fun j hj => ?_, hb⟩
  have := World.ownsRow.cellAt hown j (by omega)
  rw [this]; simp [hj]
/-- The text out of the first j parts. -/
def backL (b : UInt8) (P : List ByteArray) (j : Nat) : List UInt8 := joinF b (P.headD ⟨#[]⟩).data.toList ((strL P).tail.take (j - 1))
theorem backL_one (b : UInt8) (P : List ByteArray) : backL b P 1 = (P.headD ⟨#[]⟩).data.toList := by unfold backL joinF; simp
theorem backL_step (b : UInt8) (P : List ByteArray) (j : Nat) (h1 : 1 ≤ j) (h2 : j < P.length) : backL b P (j + 1) = backL b P j ++ [b] ++ P[j].data.toList := by
  unfold backL
  cases P with
  | nil => simp at h2
  | cons a t =>
    simp only [strL, List.map_cons, List.tail_cons]
    obtain ⟨i, rfl⟩ : ∃ i, j = i + 1 := ⟨j - 1, by omega⟩
    simp only [List.length_cons] at h2
    rw [show i + 1 + 1 - 1 = i + 1 by omega, show i + 1 - 1 = i by omega, List.take_succ_eq_append_getElem (by rw [List.length_map]; omega), joinF_snoc]
    simp
theorem backL_all (b : UInt8) (P : List ByteArray) (s : ByteArray) (h : strL P = partsF b s.data.toList) : backL b P P.length = s.data.toList := by
  obtain ⟨x, t, e, j⟩ := parts_join b s.data.toList
  cases P with
  | nil => unfold strL at h; rw [List.map_nil] at h; exact absurd h.symm (partsF_ne _ _)
  | cons a q =>
    rw [e] at h
    simp only [strL, List.map_cons, List.cons.injEq] at h
    unfold backL
    simp only [strL, List.map_cons, List.tail_cons, List.length_cons, List.headD_cons, Nat.add_sub_cancel]
    rw [h.1, h.2, List.take_of_length_le (by rw [← h.2]; simp), j]
theorem conv1d (w : World) (x : Int) : (convert 22 9 (.slice (some ⟨w.heap.size, 0, none⟩) 1 1)).run Tryd.prog (w.alloc (.cells #[.int .u8 x] 5)).drew = .ok (.string ⟨#[UInt8.ofNat x.toNat]⟩) (w.alloc (.cells #[.int .u8 x] 5)).drew := conv1 w.drew x
theorem pieces_short {P : List ByteArray} {s : ByteArray} {b : UInt8} (h : strL P = partsF b s.data.toList) (hs : s.size ≤ 8) (j : Nat) (hj : j < P.length) : P[j].size ≤ 8 := by
  have h1 := partsF_mem b s.data.toList P[j].data.toList (by rw [← h]; exact List.mem_map.2 ⟨P[j], List.getElem_mem hj, rfl⟩)
  have h2 : P[j].data.toList.length = P[j].size := by simp
  have h3 : s.data.toList.length = s.size := by simp
  omega
set_option maxHeartbeats 1600000 in
theorem walk (a0 : Option Addr) (len0 cap0 : Nat) (z0 : List Int) (w : World) (w0 : IsRow .u8 w a0 len0 cap0 z0) (hsh : w.ShapedOpen Tryd.prog) :
    Calls Tryd.prog 4 #[.slice a0 len0 cap0] w fun e w' => e = .returned (.bool true) ∧ Below w.heap.size w w' := by
  by_cases hb : 1048576 < len0
  · clear w0 hsh
    go_enter Tryd.func4, Tryd.ntmps4
    go_wp2
    go_ret
    exact ⟨rfl, Below.refl _ _⟩
  · have hcode := codeOf w0 (by omega)
    have Hcode := Lib.hid hcode
    have Hsh := Lib.hid hsh
    have hcv := conv1
    clear w0 hcode hsh
    go_enter Tryd.func4, Tryd.ntmps4
    go_wp2_with (go_at_call 8; go_in)
    refine (drawParts_any a0 len0 cap0 _ Hcode.out).mono ?_
    rintro e x1 ⟨s, b, hs, rfl, hb1⟩
    have hz1 := hb1.size
    go_wp2_with fail
    refine (partsIs (implParts_any s b _ (by omega) (shaped_below Hsh.out hb1)) hs).mono ?_
    rintro e x2 ⟨P, g, c, rfl, hP, hP0, hP9, hg, hcell, hb2⟩
    have hz2 := hb2.size
    have hb12 : Below w.heap.size w x2 := hb1.trans (hb2.mono hz1)
    have c0 := hcell 0 hP0
    have hPz : ((P.length : Int) == 0) = false := by rw [beq_eq_false_iff_ne]; omega
    have HP := Lib.hid hP
    have Hcell := Lib.hid hcell
    have hfirst : Hid (backL b P 1 = P[0].data.toList) := Lib.hid (by
      rw [backL_one]
      cases P with
      | nil => simp at hP0
      | cons a t => rfl)
    obtain ⟨p0, hp0⟩ : ∃ p0, p0 = P[0] := ⟨_, rfl⟩
    rw [← hp0] at c0
    have Hp0 := Lib.hid hp0
    clear hP hcell hb1 hb2 hp0
    go_wp2_with fail
    have hp8 : p0.size ≤ 8 := by rw [Hp0.out]; exact pieces_short HP.out hs 0 hP0
    have hcvd := conv1d
    go_loopw [6, 7] (fun o i wr => ∃ (j : Nat) (t : ByteArray), 1 ≤ j ∧ j ≤ P.length ∧ i = .int .i64 j ∧ o = .string t ∧ t.size ≤ 9 * j ∧ Hid (t.data.toList = backL b P j) ∧ Below x2.heap.size x2 wr) (fun _ i _ => P.length - (intOf i).toNat)
    case atStart => exact ⟨1, p0, Nat.le_refl _, hP0, rfl, rfl, by omega, Lib.hid (by rw [hfirst.out, Hp0.out]), Below.refl _ _⟩
    case round =>
      obtain ⟨j, t, hj1, hj, rfl, rfl, ht, htl, hbr⟩ := hrel
      have hzr := hbr.size
      by_cases hlt : j < P.length
      · have cj : _ := (hbr.cell (p := ⟨g, j, none⟩) hg).trans (Hcell.out j hlt)
        obtain ⟨q, hq⟩ : ∃ q, q = P[j] := ⟨_, rfl⟩
        rw [← hq] at cj
        have hq8 : q.size ≤ 8 := by rw [hq]; exact pieces_short HP.out hs j hlt
        have Hq := Lib.hid hq
        clear hq
        have j0 : (0 : Int) ≤ (j : Int) := by omega
        have j1 : (j : Int) < (P.length : Int) := by omega
        have cj2 : ∀ o, (wr.alloc o).cell? ⟨g, j, none⟩ = some (.string q) := fun o => by rw [World.cell?_alloc_past _ _ _ (by show g < wr.heap.size; omega)]; exact cj
        go_wp2_with fail
        go_region
        all_goals
          have hback : Hid ((t ++ ⟨#[b]⟩ ++ q).data.toList = backL b P (j + 1)) := Lib.hid (by
            rw [backL_step b P j hj1 hlt, ← htl.out, Hq.out]; simp [ByteArray.data_append])
          have hbr2 : Below x2.heap.size x2 (wr.alloc (.cells #[.int .u8 b.toNat] 5)).drew := (hbr.alloc hzr _).drew
          clear cj cj2 hcv hcvd
          have hsz9 : (t ++ ⟨#[b]⟩ ++ q).size ≤ 9 * (j + 1) := by
            rw [ByteArray.size_append, ByteArray.size_append]
            have : (ByteArray.mk #[b]).size = 1 := rfl
            omega
          have Hsz9 := Lib.hid hsz9
          clear hsz9
          go_wp2_with fail
          go_roundw
          case rel => exact ⟨j + 1, _, by omega, by omega, by go_num, rfl, Hsz9.out, hback, hbr2⟩
          case measure => simp [intOf]; omega
      · have hjn : j = P.length := by omega
        have Hjn := Lib.hid hjn
        clear hjn
        have hts : Hid (t = s) := Lib.hid (by
          have h1 := htl.out
          rw [Hjn.out, backL_all b P s HP.out] at h1
          cases t; cases s
          simp only [ByteArray.mk.injEq]
          exact Array.toList_inj.1 h1)
        have hteq : (t.toList == s.toList) = true := by rw [hts.out, beq_self_eq_true]
        go_wp2_with fail
        refine (partsIs (specParts_any s b _ (by omega)) hs).mono ?_
        rintro e x4 ⟨P', g', c', rfl, hP', _, _, _, _, hb4⟩
        obtain rfl : P = P' := bytes_inj (HP.out.trans hP'.symm)
        clear hP'
        go_wp2_with fail
        go_ret
        exact ⟨rfl, (hb12.trans (hbr.mono (by omega))).trans (hb4.mono (by omega))⟩

/-- The cells of a pinned table of numbers, for the witness. -/
def pinCells : DataW Unit → Array Value
  | .agg ds => (ds.map fun d => match d with | .lit (.int k n) => Value.int k n | _ => Value.int .u8 0).toArray
  | _ => #[]
noncomputable def witWorld0 (os : Os) : World :=
  { (World.doorLaid Tryd.prog 34 os) with heap := (World.doorLaid Tryd.prog 34 os).heap.modify 4 fun o => match o with | .cells _ t fr => .cells (pinCells Go.Pinned.utf8First) t fr | o => o }
theorem contract (H : Type) (enc : TypeId × Value → H) (W : World) (base : Nat) (args : Array Value) (ds gs : List (DataW H)) (before : List MemPlace)
    (hval : ∀ (j : Nat) t v, Tryd.f4.params[j]? = some t → args[j]? = some v → Value.okWide Tryd.prog W .any base t v)
    (hW : DataW.Whole enc Tryd.prog Tryd.f4.params.toList Rows.fnPartsBackSpec.vars false W args.toList ds gs before) (hL : laidMetH Tryd.prog Rows.fnPartsBackRow.laid W) (hsh : W.ShapedOpen Tryd.prog) :
    Calls Tryd.prog 4 args W fun e W' => ∃ v, e = .returned v ∧ Rows.fnPartsBackSpec.post enc Tryd.prog Tryd.f4 false true false false W args v W' := by
  have hW' := hW
  obtain ⟨p, q, hA0, hV, rfl, hfz, hnd⟩ := hW
  have hA : DataW.TrodAll enc Tryd.prog W 0 (fun _ => true) true Tryd.f4.params.toList args.toList ds p := hA0
  rw [Tryd.params4] at hA hval
  obtain ⟨v0, vs0, d0, ds0, p0, q0, hargs, rfl, rfl, h0, r0⟩ := trodAll_cons hA
  obtain ⟨rfl, rfl, rfl⟩ := trodAll_nil r0
  obtain rfl : args = #[v0] := by cases args; simp_all
  obtain ⟨rfl, rfl⟩ := trodVars_none hV
  obtain ⟨a0, len0, cap0, rfl⟩ := okWide_slice Tryd.underlying22 (hval 0 22 v0 rfl rfl)
  have k0 := h0
  have lt0 : ∀ x ∈ p0, x.block < W.heap.size := by obtain ⟨m, hm⟩ := k0; exact DataW.trod_lt m _ _ _ hm
  obtain ⟨z0, w0⟩ : ∃ zs, IsRow .u8 W a0 len0 cap0 zs := by
    obtain ⟨fuel, hf⟩ := h0
    rcases open_ints Tryd.underlying22 Tryd.underlying5 (by kernel_rfl) hf with ⟨hcs, _⟩ | ⟨x, l, c, zs, hcs, _, hl, hm, hz, _, hcell, hwz⟩
    · simp [Value.cells] at hcs
      obtain ⟨rfl, rfl, rfl⟩ := hcs
      exact ⟨[], .inl ⟨rfl, rfl, rfl, rfl⟩⟩
    · simp [Value.cells] at hcs
      obtain ⟨rfl, rfl, rfl⟩ := hcs
      exact ⟨zs, .inr ⟨_, rfl, hl, hm, by simpa using hz, hcell, hwz⟩⟩
  clear hA0
  refine (walk a0 len0 cap0 z0 W w0 (hsh)).mono fun e W' ⟨he, bel⟩ => ?_
  subst he
  exact ⟨_, rfl, _, _, _, [], _, [], hW', trodAll_mk1 (shut_bool Tryd.underlying4 _), (trodAll_cons_mk (Below.trod laidOut (by kernel_rfl) (of_decide_eq_true (by kernel_rfl)) k0 bel lt0) trodAll_mk0), rfl, bel.frame _, fun h => by cases h⟩

theorem laid_met (os : Os) : laidMet Tryd.prog Rows.fnPartsBackRow.laid ((witWorld0 os).forCall (fun _ _ => 0) ⟨#[], #[.slice none 0 0], []⟩).memory :=
  laidMet_of_run' 8 (by kernel_rfl) (by kernel_rfl)
theorem reads (os : Os) {H : Type} (enc : TypeId × Value → H) : ∃ places, DataW.whole enc Tryd.prog ((witWorld0 os).forCall (fun _ _ => 0) ⟨#[], #[.slice none 0 0], []⟩).memory Tryd.f4.params.toList Rows.fnPartsBackSpec.vars false (#[.slice none 0 0] : Array Value).toList 8 = some ([.nil], [], places) :=
  ⟨[], by kernel_rfl⟩
set_option maxRecDepth 100000 in
theorem lifted (os : Os) (started : os.Started) (H : Type) (enc : TypeId × Value → H) (F : Stop.Interp) :
    ReturnsInHanded {} Tryd.checked os 4 .any ((OpenSpec.ofChange Rows.fnPartsBackSpec).preRow enc Tryd.prog Tryd.f4 Rows.fnPartsBackRow.domain false Rows.fnPartsBackRow.laid) (((OpenSpec.ofChange Rows.fnPartsBackSpec).at F).post enc Tryd.prog Tryd.f4 false true false false) := by
  obtain ⟨places, hx⟩ := reads os enc
  refine returnsInHanded_of_row (C := Tryd.checked) (s := OpenSpec.ofChange Rows.fnPartsBackSpec) own started (by kernel_rfl) Tryd.func4
    (witness_row_at (enc := enc) (C := Tryd.checked) false (witWorld0 os) #[.slice none 0 0] rfl (by kernel_rfl) (by kernel_rfl) (by kernel_rfl)
      (OpenSpec.preRow_of_cond 8 hx (by kernel_rfl) (fun k hk => by cases hk) (by kernel_rfl) (laid_met os))) ?_
  intro W base args ds gs before hval hW _ _ _ hL hsh _
  exact contract H enc W base args ds gs before hval hW hL hsh
theorem said : Rows.fnPartsBackRow.holds Tryd.pinned (OpenSpec.ofChange Rows.fnPartsBackSpec) :=
  OpenClaim.holds_of_cond 4 Tryd.f4 rfl rfl rfl rfl rfl rfl rfl ⟨rfl, rfl, rfl, rfl, rfl⟩ rfl rfl rfl rfl rfl (by kernel_rfl) Tryd.func4 (by kernel_rfl)
    (of_decide_eq_true (by kernel_rfl)) (by unfold Func.isWrapper; first | (rw [if_pos (by decide +kernel)]; kernel_rfl) | (rw [if_neg (by decide +kernel)]; exact ⟨rfl, rfl⟩))
    (fun os started H enc _ F => by rw [OpenClaim.pre_eq_preRow]; exact lifted os started H enc F)
theorem plain (f : FuncId) (fn : Func) (hf : Tryd.pinned.checked.prog.funcNamed "loop.example/g00498/laws.FnPartsBack" = some f) (hfn : Tryd.pinned.checked.prog.funcs[f]? = some fn) :
    false = Tryd.pinned.checked.prog.looks [] ∧ ∀ (j : Nat) t, fn.params[j]? = some t → Tryd.pinned.checked.prog.wantsStandIn t = false := by
  obtain rfl : f = 4 := Option.some.inj ((show Tryd.prog.funcNamed "loop.example/g00498/laws.FnPartsBack" = some 4 by kernel_rfl).symm.trans hf) |>.symm
  obtain rfl : fn = Tryd.f4 := (Option.some.inj (Tryd.func4.symm.trans hfn)).symm
  refine ⟨by kernel_rfl, fun j t ht => ?_⟩
  rw [Tryd.params4] at ht
  obtain rfl : t = 22 := by simpa using Array.mem_of_getElem? ht
  exact (show Tryd.prog.wantsStandIn 22 = false by kernel_rfl)
theorem proved : Rows.FnPartsBackCardSaid :=
  Claim7.holds_tied_plain_at .later [] _ _ _ _ said (fun _ h => by cases h) (by kernel_rfl) (fun _ h => by cases h) fnPartsBack_row_tie rfl ⟨rfl, rfl⟩ (by kernel_rfl) rfl plain (by kernel_rfl)
end Go.Proofs.YtofeefkhelibpaaDoor.fnPartsBack
