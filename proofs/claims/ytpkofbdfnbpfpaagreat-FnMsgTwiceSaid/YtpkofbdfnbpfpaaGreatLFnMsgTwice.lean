/-
  For every code of bytes, laws.FnMsgTwice returns true: of a message that is read whole, twice the bytes give twice the events. No condition.
-/
import Derived.Test.YtpkofbdfnbpfpaaGreatRows
import Derived.WalkKit
import Derived.ProofKit
import Derived.OpenShut
import Derived.ShutString
import Derived.ChangeOld
import Derived.Below
import Derived.Test.YtpkofbdfnbpfpaaGreatXReadI
import Derived.Test.YtpkofbdfnbpfpaaGreatXSpecB
import Derived.Test.YtpkofbdfnbpfpaaGreatXDrawF
import Derived.Test.YtpkofbdfnbpfpaaGreatXPlainTw
namespace Go.Proofs.YtpkofbdfnbpfpaaGreat.fnMsgTwice
open Go.ChangeShapes Go.WideShapes Go.ChangeAt Go.RowKit
open Go.ChangeMaps (open_string shut_string)
set_option linter.unusedVariables false

theorem own : ownKnob Tryz.prog.godebug = none := by kernel_rfl
theorem laidOut : laidOutB Tryz.prog = true := by kernel_rfl

/-- WHAT THE WALK IS TOLD OF A SLICE OF INTEGERS THAT CAME IN: it is nil; or it leads to a row of 'cap' cells, the numbers 'zs' (the first 'len' are its elements, the rest its spare room), each fitting its kind. -/
def IsRow (k : IntKind) (w : World) (a : Option Addr) (len cap : Nat) (zs : List Int) : Prop :=
  (a = none ∧ len = 0 ∧ cap = 0 ∧ zs = []) ∨
  ∃ x, a = some x ∧ len ≤ cap ∧ cap ≤ maxLen ∧ zs.length = cap ∧ (∀ i, i < zs.length → w.cell? (x.add i) = some (.int k (zs.getD i 0))) ∧ ∀ n ∈ zs, (Lit.int k n).wf = true

/-! ### STEP 1: THE WALK: the Go text returns true, AND WRITES NOTHING THAT WAS THERE: 'Below w.heap.size w w'' (Derived/Below.lean: '.refl', '.alloc', '.drew', '.setCell' at a new block, '.trans'). Open each 'IsRow' by 'rcases' AHEAD of 'go_enter'; part every test ahead of the walk. -/
open Num in
/-- What the law keeps: the plan's variable, the schema, the first answer and how it failed. -/
structure ML (w1 : World) (u : Value) (A D C : Int) (sch : List RM) (L : List Ev) (v : Value) (F : Ev) (gf : Nat) (wx : World) : Prop where
  pb : Box wx w1.heap.size [u, .int .i64 A, .int .i64 D, .int .i64 C]
  msgs : MsgsAt wx (· < w1.heap.size) u sch
  told : EvsAt wx (fun b => w1.heap.size < b ∧ b < wx.heap.size) v L
  fb : Box wx gf (evC F)
  gf : w1.heap.size < gf
open Num in
theorem ML.below {w1 wx wy : World} {u v : Value} {A D C : Int} {sch : List RM} {L : List Ev} {F : Ev} {gf : Nat} (h : ML w1 u A D C sch L v F gf wx) (hb : Below wx.heap.size wx wy) : ML w1 u A D C sch L v F gf wy :=
  ⟨h.pb.below hb h.pb.lt, h.msgs.keep (.of_below hb fun _ h' => Nat.lt_trans h' h.pb.lt) fun _ h => h, (h.told.below hb fun _ h => h.2).wide fun _ h' => ⟨h'.1, Nat.lt_of_lt_of_le h'.2 hb.size⟩, h.fb.below hb h.fb.lt, h.gf⟩
open Num in
theorem ML.up {w1 wx : World} {u v : Value} {A D C : Int} {sch : List RM} {L : List Ev} {F : Ev} {gf : Nat} (h : ML w1 u A D C sch L v F gf wx) : MsgsAt wx (· < wx.heap.size) u sch := h.msgs.keep (fun _ _ _ => rfl) fun _ h' => Nat.lt_trans h' h.pb.lt
open Num in
theorem ML.list {w1 wx : World} {u v : Value} {A D C : Int} {sch : List RM} {L : List Ev} {F : Ev} {gf : Nat} (h : ML w1 u A D C sch L v F gf wx) : EvsAt wx (· < wx.heap.size) v L := h.told.wide fun _ h' => h'.2
open Num in
theorem ML.cells {w1 wx : World} {u v : Value} {A D C : Int} {sch : List RM} {L : List Ev} {k f b l : Int} {t : ByteArray} {c p : Int} {gf : Nat} (h : ML w1 u A D C sch L v ⟨k, f, b, l, t, c, p⟩ gf wx) :
    ((wx.cell? ⟨w1.heap.size, 0, none⟩ = some u ∧ wx.cell? ⟨w1.heap.size, 1, none⟩ = some (.int .i64 A) ∧ wx.cell? ⟨w1.heap.size, 2, none⟩ = some (.int .i64 D) ∧ wx.cell? ⟨w1.heap.size, 3, none⟩ = some (.int .i64 C)) ∧ wx.frozen? ⟨w1.heap.size, 2, none⟩ = false ∧ w1.heap.size < wx.heap.size) ∧
    (wx.cell? ⟨gf, 0, none⟩ = some (.int .i64 k) ∧ wx.cell? ⟨gf, 1, none⟩ = some (.int .i64 f) ∧ wx.cell? ⟨gf, 2, none⟩ = some (.int .u64 b) ∧ wx.cell? ⟨gf, 3, none⟩ = some (.int .i64 l) ∧ wx.cell? ⟨gf, 4, none⟩ = some (.string t) ∧ wx.cell? ⟨gf, 5, none⟩ = some (.int .i64 c) ∧ wx.cell? ⟨gf, 6, none⟩ = some (.int .i64 p)) ∧ gf < wx.heap.size :=
  ⟨⟨⟨(h.pb.2 0 (by simp)).1, (h.pb.2 1 (by simp)).1, (h.pb.2 2 (by simp)).1, (h.pb.2 3 (by simp)).1⟩, (h.pb.2 2 (by simp)).2, h.pb.lt⟩, ⟨(h.fb.2 0 (by simp [evC])).1, (h.fb.2 1 (by simp [evC])).1, (h.fb.2 2 (by simp [evC])).1, (h.fb.2 3 (by simp [evC])).1, (h.fb.2 4 (by simp [evC])).1, (h.fb.2 5 (by simp [evC])).1, (h.fb.2 6 (by simp [evC])).1⟩, h.fb.lt⟩
open Num in
theorem evAt {w : World} {g : Nat} {k f b l : Int} {t : ByteArray} {c p : Int} (h : Box w g [.int .i64 k, .int .i64 f, .int .u64 b, .int .i64 l, .string t, .int .i64 c, .int .i64 p]) : (w.cell? ⟨g, 0, none⟩ = some (.int .i64 k) ∧ w.cell? ⟨g, 1, none⟩ = some (.int .i64 f) ∧ w.cell? ⟨g, 2, none⟩ = some (.int .u64 b) ∧ w.cell? ⟨g, 3, none⟩ = some (.int .i64 l) ∧ w.cell? ⟨g, 4, none⟩ = some (.string t) ∧ w.cell? ⟨g, 5, none⟩ = some (.int .i64 c) ∧ w.cell? ⟨g, 6, none⟩ = some (.int .i64 p)) ∧ g < w.heap.size :=
  ⟨⟨(h.2 0 (by simp)).1, (h.2 1 (by simp)).1, (h.2 2 (by simp)).1, (h.2 3 (by simp)).1, (h.2 4 (by simp)).1, (h.2 5 (by simp)).1, (h.2 6 (by simp)).1⟩, h.lt⟩
open Num in
theorem readR_len {sch : List RM} {A B C shape : Int} {s : ByteArray} {a E deep : Int} : (readR sch A B C shape s a E deep).1.length ≤ 4 * s.size := by
  unfold readR
  split
  · next h =>
    unfold rdOkB at h
    simp only [Bool.and_eq_true, decide_eq_true_eq] at h
    obtain ⟨⟨⟨⟨_, _⟩, h1⟩, h2⟩, _⟩ := h
    have hadv := msgRd_adv (s := s) (sch := sch) (D := B) (s.size + 1) shape E deep ⟨a.toNat, [], zeroE⟩ (by show a.toNat ≤ s.size; omega) (by show ((a.toNat : Nat) : Int) ≤ E; omega)
    have k1 := hadv.len
    have k2 := hadv.inn
    have k3 : (⟨a.toNat, [], zeroE⟩ : RdM).out.length = 0 := rfl
    rw [k3] at k1
    show (msgRd s sch B (s.size + 1) shape E deep ⟨a.toNat, [], zeroE⟩).out.length ≤ _
    omega
  · exact Nat.zero_le _
open Num in
theorem wpList_at {P : Program} {ops : Array Oper} {rest : List Oper} {o : Oper} {a : Act} {w : World} {Q : Exit → Act → World → Prop} (h : Region.wanted o (yielded ops a.tmps) = true) (hK : ∀ K : Act → World → Prop, (∀ a w, wpList P ops Q rest a w → K a w) → o.wp P a w K Q) : wpList P ops Q (o :: rest) a w := by
  unfold wpList
  rw [if_pos h]
  exact .inl (hK _ fun _ _ h => h)
open Num in
theorem wpList_wanted {P : Program} {ops : Array Oper} {rest : List Oper} {o : Oper} {a : Act} {w : World} {Q : Exit → Act → World → Prop} (h : Region.wanted o (yielded ops a.tmps) = true) (hK : o.wp P a w (wpList P ops Q rest) Q) : wpList P ops Q (o :: rest) a w := by
  unfold wpList
  rw [if_pos h]
  exact .inl hK
open Num in
set_option maxHeartbeats 8000000 in
set_option maxRecDepth 100000 in
theorem walk (a0 : Option Addr) (len0 cap0 : Nat) (z0 : List Int) (w : World) (w0 : IsRow .u8 w a0 len0 cap0 z0) :
    Calls Tryz.prog 3 #[.slice a0 len0 cap0] w fun e w' => e = .returned (.bool true) ∧ Below w.heap.size w w' := by
  by_cases hb : 1048576 < len0
  · clear w0
    go_enter Tryz.func3, Tryz.ntmps3
    go_wp2
    go_ret
    exact ⟨rfl, Below.refl _ _⟩
  · have hcode := codeOf w0 (by omega)
    have Hcode := Lib.hid hcode
    clear w0 hcode
    go_enter Tryz.func3, Tryz.ntmps3
    go_wp2_with (go_at_call 16; go_in)
    refine (drawReadMsg_any a0 len0 cap0 _ Hcode.out).mono ?_
    rintro e w1 ⟨u, sch, A, D, C, shape, s, x, E, deep, Hd0, rfl, hm, hb1⟩
    obtain ⟨ua, uc, rfl⟩ := MsgsAt.len hm
    have Hd := Lib.hid Hd0
    have hbP : Below w1.heap.size w1 (w1.alloc (.cells #[.slice ua sch.length uc, .int .i64 A, .int .i64 D, .int .i64 C] 28)) := (Below.refl _ _).alloc (Nat.le_refl _) _
    have hx2 := Box.fresh w1 #[.slice ua sch.length uc, .int .i64 A, .int .i64 D, .int .i64 C] 28
    have hm1 : MsgsAt w1 (· < w1.heap.size) (.slice ua sch.length uc) sch := hm.keep (fun _ _ _ => rfl) fun _ h => h.2
    have hm2 : MsgsAt (w1.alloc (.cells #[.slice ua sch.length uc, .int .i64 A, .int .i64 D, .int .i64 C] 28)) (· < w1.heap.size) (.slice ua sch.length uc) sch := hm1.keep (.of_below hbP fun _ h => h) fun _ h => h
    have HCall : Hid (∀ (D' : Int) (s' : ByteArray) (x' E' : Int), s'.size ≤ 200000000 → (-9223372036854775808 ≤ x' ∧ x' ≤ 9223372036854775807) → (-9223372036854775808 ≤ E' ∧ E' ≤ 9223372036854775807) → (∀ w, Num.MsgsAt w (· < w.heap.size) (.slice ua sch.length uc) sch → Calls Tryz.prog 18 #[.agg #[.slice ua sch.length uc, .int .i64 A, .int .i64 D', .int .i64 C], .int .i64 shape, .string s', .int .i64 x', .int .i64 E', .int .i64 deep] w fun e w' => ∃ v cap, e = .returned (.tuple #[.slice v (readR sch A D' C shape s' x' E' deep).1.length cap, evV (readR sch A D' C shape s' x' E' deep).2]) ∧ Num.OwnE w' w.heap.size 34 (.slice v (readR sch A D' C shape s' x' E' deep).1.length cap) (readR sch A D' C shape s' x' E' deep).1 ∧ Below w.heap.size w w') ∧ (∀ w, Num.MsgsAt w (· < w.heap.size) (.slice ua sch.length uc) sch → Calls Tryz.prog 19 #[.agg #[.slice ua sch.length uc, .int .i64 A, .int .i64 D', .int .i64 C], .int .i64 shape, .string s', .int .i64 x', .int .i64 E', .int .i64 deep] w fun e w' => ∃ v cap, e = .returned (.tuple #[.slice v (readR sch A D' C shape s' x' E' deep).1.length cap, evV (readR sch A D' C shape s' x' E' deep).2]) ∧ Num.OwnE w' w.heap.size 34 (.slice v (readR sch A D' C shape s' x' E' deep).1.length cap) (readR sch A D' C shape s' x' E' deep).1 ∧ Below w.heap.size w w')) := Lib.hid fun D' s' x' E' h1 h2 h3 =>
      ⟨fun w h => implReadMsg_any (.slice ua sch.length uc) sch A D' C shape x' E' deep s' w h Hd0.small h1 ⟨by have := Hd0.shape; omega, h2, h3, by have := Hd0.deep; omega⟩, fun w h => specReadMsg_any (.slice ua sch.length uc) sch A D' C shape x' E' deep s' w h Hd0.small h1 h3.2⟩
    have hsz := Hd0.size
    have hpl := Hd0.place
    have hup := Hd0.upto
    have hdp := Hd0.deep
    have hpn := Hd0.plan
    have hC1 := HCall.out D s x E (by omega) (by omega) (by omega)

    obtain ⟨Z, hZ⟩ : ∃ Z, readR sch A D C shape s x E deep = Z := ⟨_, rfl⟩
    have hLn : Z.1.length ≤ 4 * s.size := by rw [← hZ]; exact readR_len
    rw [hZ] at hC1 
    obtain ⟨L, ⟨k, f, b, l, t, c, p⟩⟩ := Z
    unfold evV at hC1
    simp only at hC1 hLn 
    have HI : Hid (∀ w, Num.MsgsAt w (· < w.heap.size) (.slice ua sch.length uc) sch → Calls Tryz.prog 18 #[.agg #[.slice ua sch.length uc, .int .i64 A, .int .i64 D, .int .i64 C], .int .i64 shape, .string s, .int .i64 x, .int .i64 E, .int .i64 deep] w fun e w' => ∃ v cap, e = .returned (.tuple #[.slice v L.length cap, .agg #[.int .i64 k, .int .i64 f, .int .u64 b, .int .i64 l, .string t, .int .i64 c, .int .i64 p]]) ∧ Num.OwnE w' w.heap.size 34 (.slice v L.length cap) L ∧ Below w.heap.size w w') := Lib.hid hC1.1
    have HS : Hid (∀ w, Num.MsgsAt w (· < w.heap.size) (.slice ua sch.length uc) sch → Calls Tryz.prog 19 #[.agg #[.slice ua sch.length uc, .int .i64 A, .int .i64 D, .int .i64 C], .int .i64 shape, .string s, .int .i64 x, .int .i64 E, .int .i64 deep] w fun e w' => ∃ v cap, e = .returned (.tuple #[.slice v L.length cap, .agg #[.int .i64 k, .int .i64 f, .int .u64 b, .int .i64 l, .string t, .int .i64 c, .int .i64 p]]) ∧ Num.OwnE w' w.heap.size 34 (.slice v L.length cap) L ∧ Below w.heap.size w w') := Lib.hid hC1.2
    have HZ := Lib.hid hZ
    obtain ⟨d0, df0⟩ := hx2.2 0 (by simp)
    obtain ⟨d1, df1⟩ := hx2.2 1 (by simp)
    obtain ⟨d2, df2⟩ := hx2.2 2 (by simp)
    obtain ⟨d3, df3⟩ := hx2.2 3 (by simp)
    have dz := hx2.lt
    simp only [List.getElem_cons_succ, List.getElem_cons_zero] at d0 d1 d2 d3
    clear hm hC1 hZ Hcode Hd0 hm1
    unfold planV
    go_wp2_with fail
    generalize (w1.alloc (.cells #[.slice ua sch.length uc, .int .i64 A, .int .i64 D, .int .i64 C] 28)) = w2 at hbP hx2 hm2 d0 d1 d2 d3 df0 df1 df2 df3 dz ⊢
    refine (HI.out _ (hm2.keep (fun _ _ _ => rfl) fun _ h => Nat.lt_trans h hx2.lt)).mono ?_
    rintro e w3 ⟨v, cap, rfl, hown, hb3⟩
    have HW1 : Hid (w.heap.size ≤ w1.heap.size) := Lib.hid hb1.size
    have HV : Hid (v = none → L.length = 0 ∧ cap = 0) := Lib.hid fun e => by
      rcases hown.form with ⟨h1, h2⟩ | ⟨g, c, h1, _⟩
      · injection h1 with e1 e2 e3; exact ⟨e2, e3⟩
      · injection h1 with e1 e2 e3; rw [e] at e1; cases e1
    have hl3 := Lib.hid ((hb1.trans (hbP.mono hb1.size)).trans (hb3.mono (by have := hb1.size; have := hx2.lt; omega)))
    have hx3 := hx2.below hb3 hx2.lt
    have hm3 : MsgsAt w3 (· < w1.heap.size) (.slice ua sch.length uc) sch := hm2.keep (.of_below hb3 fun _ h => Nat.lt_trans h hx2.lt) fun _ h => h
    have M4 : Hid (ML w1 (.slice ua sch.length uc) A D C sch L (.slice v L.length cap) ⟨k, f, b, l, t, c, p⟩ w3.heap.size (w3.alloc (.cells #[.int .i64 k, .int .i64 f, .int .u64 b, .int .i64 l, .string t, .int .i64 c, .int .i64 p] 34))) := Lib.hid ⟨hx3.alloc _, hm3.keep (.of_below ((Below.refl w3.heap.size w3).alloc (Nat.le_refl _) _) fun _ h => Nat.lt_trans h hx3.lt) fun _ h => h, (hown.alloc _).evsAt.wide (fun b hb => ⟨by have := hb.1; have := hx2.lt; omega, hb.2⟩), Box.fresh w3 _ _, hx3.lt⟩
    have hl4 := Lib.hid (hl3.out.alloc (by have := hb1.size; have := hb3.size; have := hx2.lt; omega) (.cells #[.int .i64 k, .int .i64 f, .int .u64 b, .int .i64 l, .string t, .int .i64 c, .int .i64 p] 34))
    clear d0 d1 d2 d3 df0 df1 df2 df3 dz hbP hx2 hm2 hown hb3 hx3 hm3 hl3 hb1
    obtain ⟨⟨⟨d0, d1, d2, d3⟩, df, dz⟩, ⟨m0, m1, m2, m3, m4, m5, m6⟩, mz⟩ := M4.out.cells
    go_wp2_with fail
    generalize hgf : w3.heap.size = gf at M4 m0 m1 m2 m3 m4 m5 m6 mz ⊢
    generalize (w3.alloc (.cells #[.int .i64 k, .int .i64 f, .int .u64 b, .int .i64 l, .string t, .int .i64 c, .int .i64 p] 34)) = w4 at M4 hl4 d0 d1 d2 d3 df dz m0 m1 m2 m3 m4 m5 m6 mz ⊢
    refine (HS.out _ M4.out.up).mono ?_
    rintro e w5 ⟨v', cap', rfl, hown', hb5⟩
    have M5 := M4.out.below hb5
    have M6 := Lib.hid (M5.below ((Below.refl w5.heap.size w5).alloc (Nat.le_refl _) (.cells #[.int .i64 k, .int .i64 f, .int .u64 b, .int .i64 l, .string t, .int .i64 c, .int .i64 p] 34)))
    have hT6 := Box.fresh w5 #[.int .i64 k, .int .i64 f, .int .u64 b, .int .i64 l, .string t, .int .i64 c, .int .i64 p] 34
    obtain ⟨⟨t0, t1, t2, t3, t4, t5, t6⟩, tz⟩ := evAt hT6
    have hl6 := Lib.hid ((hl4.out.trans (hb5.mono hl4.out.size)).alloc (by have := hl4.out.size; have := hb5.size; omega) (.cells #[.int .i64 k, .int .i64 f, .int .u64 b, .int .i64 l, .string t, .int .i64 c, .int .i64 p] 34))
    clear d0 d1 d2 d3 df dz m0 m1 m2 m3 m4 m5 m6 mz
    clear M4 M5 hl4 hown' hb5 hT6 hgf
    obtain ⟨⟨⟨d0, d1, d2, d3⟩, df, dz⟩, ⟨m0, m1, m2, m3, m4, m5, m6⟩, mz⟩ := M6.out.cells
    by_cases hk : k ≠ 0
    · have nk : (k != 0) = true := by simp [hk]
      go_wp2_with fail
      go_ret
      exact ⟨rfl, hl6.out⟩
    · obtain rfl : k = 0 := by omega
      by_cases hx0 : x < 0
      · have b0 : decide (x < 0) = true := decide_eq_true hx0
        go_wp2_with fail
        go_ret
        exact ⟨rfl, hl6.out⟩
      · have b0 : decide (x < 0) = false := decide_eq_false hx0
        by_cases hx1 : E < x
        · have b1 : decide (E < x) = true := decide_eq_true hx1
          go_wp2_with fail
          go_ret
          exact ⟨rfl, hl6.out⟩
        · have b1 : decide (E < x) = false := decide_eq_false hx1
          by_cases hx2 : (s.size : Int) < E
          · have b2 : decide ((s.size : Int) < E) = true := decide_eq_true hx2
            go_wp2_with fail
            go_ret
            exact ⟨rfl, hl6.out⟩
          · have b2 : decide ((s.size : Int) < E) = false := decide_eq_false hx2
            obtain ⟨X, rfl⟩ := Int.eq_ofNat_of_zero_le (show 0 ≤ x by omega)
            obtain ⟨Y, rfl⟩ := Int.eq_ofNat_of_zero_le (show 0 ≤ E by omega)
            have hXY : X ≤ Y := by omega
            have hYs : Y ≤ s.size := by omega
            clear hx0 hx1 hx2
            have htwo := readR_two (sch := sch) (A := A) (B := D) (C := C) (shape := shape) (s := s) (a := (X : Int)) (E := (Y : Int)) (deep := deep) (by omega) (by omega) (by omega) (by rw [HZ.out])
            rw [HZ.out, Int.toNat_natCast, Int.toNat_natCast] at htwo
            have hys : (s.extract X Y).size = Y - X := by rw [ByteArray.size_extract]; omega
            obtain ⟨y, hy⟩ : ∃ y, s.extract X Y = y := ⟨_, rfl⟩
            have hyz : (y ++ y).size ≤ 200000 := by rw [ByteArray.size_append, ← hy, hys]; omega
            have hyy : y.size + y.size ≤ 200000 := by rw [← hy, hys]; omega
            have hE2 : ((y ++ y).size : Int) = (y.size : Int) + (y.size : Int) := by rw [ByteArray.size_append]; push_cast; rfl
            have hC2 := (HCall.out D (y ++ y) 0 ((y.size : Int) + (y.size : Int)) (by omega) (by omega) (by omega)).1
            rw [hy, hE2] at htwo
            rw [htwo] at hC2
            unfold evV zeroE at hC2
            simp only at hC2
            have HI2 : Hid (∀ w, Num.MsgsAt w (· < w.heap.size) (.slice ua sch.length uc) sch → Calls Tryz.prog 18 #[.agg #[.slice ua sch.length uc, .int .i64 A, .int .i64 D, .int .i64 C], .int .i64 shape, .string (y ++ y), .int .i64 0, .int .i64 ((y.size : Int) + (y.size : Int)), .int .i64 deep] w fun e w' => ∃ v cap, e = .returned (.tuple #[.slice v (L ++ L).length cap, .agg #[.int .i64 0, .int .i64 0, .int .u64 0, .int .i64 0, .string ⟨#[]⟩, .int .i64 0, .int .i64 0]]) ∧ Num.OwnE w' w.heap.size 34 (.slice v (L ++ L).length cap) (L ++ L) ∧ Below w.heap.size w w') := Lib.hid hC2
            clear htwo hC2 hys hE2
            have hXi : (X : Int) ≤ (Y : Int) := by omega
            have hYi : (Y : Int) ≤ (s.size : Int) := by omega
            go_upto_region 10 with fail
            go_quiet (fail)
            go_wp2_with fail
            have M7 := Lib.hid (M6.out.below (below_drewN (Below.refl _ _) nq))
            have hl7 := Lib.hid (below_drewN hl6.out nq)
            clear d0 d1 d2 d3 df dz m0 m1 m2 m3 m4 m5 m6 mz
            clear M6 hl6 t0 t1 t2 t3 t4 t5 t6 tz
            generalize ((w5.alloc (.cells #[.int .i64 0, .int .i64 f, .int .u64 b, .int .i64 l, .string t, .int .i64 c, .int .i64 p] 34)).drewN nq) = w7 at M7 hl7 ⊢
            generalize w5.heap.size = gt
            refine (HI2.out _ M7.out.up).mono ?_
            rintro e w8 ⟨v2, cap2, rfl, hown8, hb8⟩
            have M8 := M7.out.below hb8
            have M9 := Lib.hid (M8.below ((Below.refl w8.heap.size w8).alloc (Nat.le_refl _) (.cells #[.int .i64 0, .int .i64 0, .int .u64 0, .int .i64 0, .string ⟨#[]⟩, .int .i64 0, .int .i64 0] 34)))
            have hT := Box.fresh w8 #[.int .i64 0, .int .i64 0, .int .u64 0, .int .i64 0, .string ⟨#[]⟩, .int .i64 0, .int .i64 0] 34
            obtain ⟨⟨t0, t1, t2, t3, t4, t5, t6⟩, tz⟩ := evAt hT
            have hl9 := Lib.hid ((hl7.out.trans (hb8.mono hl7.out.size)).alloc (by have := hl7.out.size; have := hb8.size; omega) (.cells #[.int .i64 0, .int .i64 0, .int .u64 0, .int .i64 0, .string ⟨#[]⟩, .int .i64 0, .int .i64 0] 34))
            have HL2 := Lib.hid (hown8.alloc (.cells #[.int .i64 0, .int .i64 0, .int .u64 0, .int .i64 0, .string ⟨#[]⟩, .int .i64 0, .int .i64 0] 34))
            clear M7 hl7 M8 hT hown8 hb8
            obtain ⟨i0, hi, hz0, hz1, hz2⟩ := info_parts info_event
            go_upto_region 12 with fail
            generalize (w8.alloc (.cells #[.int .i64 0, .int .i64 0, .int .u64 0, .int .i64 0, .string ⟨#[]⟩, .int .i64 0, .int .i64 0] 34)) = w9 at M9 hl9 HL2 t0 t1 t2 t3 t4 t5 t6 tz ⊢
            generalize w8.heap.size = gu at t0 t1 t2 t3 t4 t5 t6 tz ⊢
            have HO := Lib.hid (OwnE.start w9 w9.heap.size 34 (Nat.le_refl _))
            have MA := Lib.hid (M9.out.below ((Below.refl w9.heap.size w9).alloc (Nat.le_refl _) (.cells #[] 34)))
            have HN := Lib.hid (MA.out.list)
            have hz9 := Lib.hid (M9.out.pb.lt)
            apply wp_region_lit
            refine wpList_at (by kernel_rfl) (fun K hK => ?_); go_simp; refine hK _ _ ?_
            refine wpList_at (by kernel_rfl) (fun K hK => ?_); go_simp; refine hK _ _ ?_
            refine wpList_at (by kernel_rfl) (fun K hK => ?_); go_simp; refine hK _ _ ?_
            refine wpList_at (by kernel_rfl) (fun K hK => ?_); go_simp; refine hK _ _ ?_
            refine wpList_at (by kernel_rfl) (fun K hK => ?_); go_simp; refine hK _ _ ?_
            refine wpList_at (by kernel_rfl) (fun K hK => ?_); go_simp; refine hK _ _ ?_
            refine wpList_at (by kernel_rfl) (fun K hK => ?_); go_simp; refine hK _ _ ?_
            refine wpList_wanted (by kernel_rfl) ?_
            refine wp_append_onto (w9.alloc (.cells #[] 34)) (.tmp 92) (.tmp 93) 31 (by rfl) w9.heap.size 34 i0 _ 7 64 Tryz.underlying31 hi hz0 hz1 hz2 (by rfl) (by omega) w9.heap.size 0 0 [] (by rfl) HO.out v L.length cap (by rfl) HV.out (L.flatMap evC) (evs_len L) (EvsAt.news HN.out) evC_one (by unfold maxLen; omega) (by omega) (by simp) _ rfl ?_
            intro ga ca wa howna hga hora hlta
            rw [Nat.zero_add] at howna ⊢
            have hba : Below w9.heap.size w9 wa := ((Below.refl _ _).alloc (Nat.le_refl _) _).grown hga (by simp) fun q hq => by cases hq; exact Nat.le_refl _
            have HNa : Hid (EvsAt wa (· < w9.heap.size) (.slice v L.length cap) L) := Lib.hid (M9.out.list.below hba fun _ h => h)
            refine wpList_at (by kernel_rfl) (fun K hK => ?_); go_simp; refine hK _ _ ?_
            refine wpList_wanted (by kernel_rfl) ?_
            refine wp_append_onto wa (.tmp 94) (.tmp 95) 31 (by rfl) w9.heap.size 34 i0 _ 7 64 Tryz.underlying31 hi hz0 hz1 hz2 (by rfl) (by omega) ga L.length ca _ (by rfl) howna v L.length cap (by rfl) HV.out (L.flatMap evC) (evs_len L) (EvsAt.news HNa.out) evC_one (by unfold maxLen; omega) (by omega) hba.size _ rfl ?_
            intro gb cb wb hownb hgb horb hltb
            have hbb : Below w9.heap.size w9 wb := hba.grown hgb hba.size fun q hq => by cases hq; exact (World.ownsRow.lt howna ga rfl).1
            have HNb : Hid (EvsAt wb (· < wb.heap.size) (.slice v2 (L.length + L.length) cap2) (L ++ L)) := Lib.hid (by
              have h := HL2.out.evsAll
              rw [List.length_append] at h
              exact (h.below hbb fun _ h => h).wide fun _ h => Nat.lt_of_lt_of_le h hbb.size)
            have HOb : Hid (EvsAt wb (· < wb.heap.size) (.slice (some ⟨gb, 0, none⟩) (L.length + L.length) cb) (L ++ L)) := Lib.hid (by
              have h : OwnE wb w9.heap.size 34 (.slice (some ⟨gb, 0, none⟩) (L.length + L.length) cb) (L ++ L) := by
                unfold OwnE
                rw [List.length_append, List.flatMap_append]
                simpa using hownb
              exact h.evsAll)
            have hlb := Lib.hid (hl9.out.trans (hbb.mono hl9.out.size))
            clear howna hga hora hlta hownb hgb horb hltb hba hbb HNa HL2 HN HO MA
            go_wp2_with fail
            refine (specSameEvents_any _ _ (L ++ L) (L ++ L) _ HNb.out HOb.out (by rw [List.length_append]; omega) (by rw [List.length_append]; omega)).mono ?_
            rw [decide_eq_true (show L ++ L = L ++ L from rfl)]
            rintro e wc ⟨rfl, hbc⟩
            have hlc := hlb.out.trans (hbc.mono hlb.out.size)
            go_wp2_with fail
            go_ret
            exact ⟨rfl, hlc⟩

/-! ### THE ROW's STEP: WRITTEN OUT: LEAVE IT -/
set_option maxRecDepth 100000 in
theorem lifted (os : Os) (started : os.Started) (H : Type) (enc : TypeId × Value → H) :
    ReturnsInHanded {} Tryz.checked os 3 .any (Rows.fnMsgTwiceSpec.pre6 enc Tryz.prog Tryz.f3 Rows.fnMsgTwiceRow.domain false) (Rows.fnMsgTwiceSpec.post enc Tryz.prog Tryz.f3 false true false false) := by
  refine returnsInHanded_of_change (C := Tryz.checked) own started (by kernel_rfl) Tryz.func3
    (ChangeSpec.witness6 (enc := enc) (C := Tryz.checked) false ⟨#[], #[.slice none 0 0], []⟩ 8 (by kernel_rfl) (by kernel_rfl) (by kernel_rfl) (by kernel_rfl)) ?_
  intro W base args ds gs before hval0 hW hcnd _
  have hval : ∀ (j : Nat) t v, Tryz.f3.params[j]? = some t → args[j]? = some v → Value.okWide Tryz.prog W .any base t v := hval0
  have hW' := hW
  obtain ⟨p, q, hA0, hV, rfl, hfz, hnd⟩ := hW
  have hA : DataW.TrodAll enc Tryz.prog W 0 (fun _ => true) true Tryz.f3.params.toList args.toList ds p := hA0
  rw [Tryz.params3] at hA hval
  obtain ⟨v0, vs0, d0, ds0, p0, q0, hargs, rfl, rfl, h0, r0⟩ := trodAll_cons hA
  obtain ⟨rfl, rfl, rfl⟩ := trodAll_nil r0
  obtain rfl : args = #[v0] := by cases args; simp_all
  obtain ⟨rfl, rfl⟩ := trodVars_none hV
  obtain ⟨a0, len0, cap0, rfl⟩ := okWide_slice Tryz.underlying22 (hval 0 22 v0 rfl rfl)
  have k0 := h0
  have lt0 : ∀ x ∈ p0, x.block < W.heap.size := by obtain ⟨m, hm⟩ := k0; exact DataW.trod_lt m _ _ _ hm
  obtain ⟨z0, w0⟩ : ∃ zs, IsRow .u8 W a0 len0 cap0 zs := by
    obtain ⟨fuel, hf⟩ := h0
    rcases open_ints Tryz.underlying22 Tryz.underlying5 (by kernel_rfl) hf with ⟨hcs, _⟩ | ⟨x, l, c, zs, hcs, _, hl, hm, hz, _, hcell, hwz⟩
    · simp [Value.cells] at hcs
      obtain ⟨rfl, rfl, rfl⟩ := hcs
      exact ⟨[], .inl ⟨rfl, rfl, rfl, rfl⟩⟩
    · simp [Value.cells] at hcs
      obtain ⟨rfl, rfl, rfl⟩ := hcs
      exact ⟨zs, .inr ⟨_, rfl, hl, hm, by simpa using hz, hcell, hwz⟩⟩
  clear hA0 hval0
  refine (walk a0 len0 cap0 z0 W w0).mono fun e W' ⟨he, bel⟩ => ?_
  subst he
  exact ⟨_, rfl, _, _, _, [], _, [], hW', trodAll_mk1 (shut_bool Tryz.underlying4 _), (trodAll_cons_mk (Below.trod laidOut (by kernel_rfl) (of_decide_eq_true (by kernel_rfl)) k0 bel lt0) trodAll_mk0), rfl, bel.frame _, fun h => by cases h⟩

theorem over : Rows.fnMsgTwiceRow.holds Tryz.pinned (OpenSpec.ofChange Rows.fnMsgTwiceSpec) :=
  OpenClaim.holds_of_wide 3 Tryz.f3 rfl rfl rfl rfl rfl rfl rfl ⟨rfl, rfl, rfl, rfl, rfl⟩ rfl rfl rfl rfl rfl (by kernel_rfl) Tryz.func3 (by kernel_rfl)
    (of_decide_eq_true (by kernel_rfl)) (by unfold Func.isWrapper; first | (rw [if_pos (by decide +kernel)]; kernel_rfl) | (rw [if_neg (by decide +kernel)]; exact ⟨rfl, rfl⟩))
    (fun os started H enc _ => lifted os started H enc)

/-- ████ THE STATEMENT ████ -/
theorem proved : Rows.FnMsgTwiceSaid := over
end Go.Proofs.YtpkofbdfnbpfpaaGreat.fnMsgTwice
