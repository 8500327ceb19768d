/-
  For every code of bytes, laws.FnMsgDeep returns true: a message that is read without the failure of depth gives the same events and ends the same way at a plan that is deeper by one. No condition.
-/
import Derived.Test.YtpkofbdfnbpfpaaGreatRows
import Derived.WalkKit
import Derived.ProofKit
import Derived.OpenShut
import Derived.ShutString
import Derived.ChangeOld
import Derived.Below
import Derived.Test.YtpkofbdfnbpfpaaGreatXReadI
import Derived.Test.YtpkofbdfnbpfpaaGreatXSpecB
import Derived.Test.YtpkofbdfnbpfpaaGreatXDrawF
import Derived.Test.YtpkofbdfnbpfpaaGreatXPlainF
namespace Go.Proofs.YtpkofbdfnbpfpaaGreat.fnMsgDeep
open Go.ChangeShapes Go.WideShapes Go.ChangeAt Go.RowKit
open Go.ChangeMaps (open_string shut_string)
set_option linter.unusedVariables false

theorem own : ownKnob Tryz.prog.godebug = none := by kernel_rfl
theorem laidOut : laidOutB Tryz.prog = true := by kernel_rfl

/-- WHAT THE WALK IS TOLD OF A SLICE OF INTEGERS THAT CAME IN: it is nil; or it leads to a row of 'cap' cells, the numbers 'zs' (the first 'len' are its elements, the rest its spare room), each fitting its kind. -/
def IsRow (k : IntKind) (w : World) (a : Option Addr) (len cap : Nat) (zs : List Int) : Prop :=
  (a = none ∧ len = 0 ∧ cap = 0 ∧ zs = []) ∨
  ∃ x, a = some x ∧ len ≤ cap ∧ cap ≤ maxLen ∧ zs.length = cap ∧ (∀ i, i < zs.length → w.cell? (x.add i) = some (.int k (zs.getD i 0))) ∧ ∀ n ∈ zs, (Lit.int k n).wf = true

/-! ### STEP 1: THE WALK: the Go text returns true, AND WRITES NOTHING THAT WAS THERE: 'Below w.heap.size w w'' (Derived/Below.lean: '.refl', '.alloc', '.drew', '.setCell' at a new block, '.trans'). Open each 'IsRow' by 'rcases' AHEAD of 'go_enter'; part every test ahead of the walk. -/
open Num in
/-- What the law keeps: the plan's variable, the schema, the first answer and how it failed. -/
structure ML (w1 : World) (u : Value) (A D C : Int) (sch : List RM) (L : List Ev) (v : Value) (F : Ev) (gf : Nat) (wx : World) : Prop where
  pb : Box wx w1.heap.size [u, .int .i64 A, .int .i64 D, .int .i64 C]
  msgs : MsgsAt wx (· < w1.heap.size) u sch
  told : EvsAt wx (fun b => w1.heap.size < b ∧ b < wx.heap.size) v L
  fb : Box wx gf (evC F)
  gf : w1.heap.size < gf
open Num in
theorem ML.below {w1 wx wy : World} {u v : Value} {A D C : Int} {sch : List RM} {L : List Ev} {F : Ev} {gf : Nat} (h : ML w1 u A D C sch L v F gf wx) (hb : Below wx.heap.size wx wy) : ML w1 u A D C sch L v F gf wy :=
  ⟨h.pb.below hb h.pb.lt, h.msgs.keep (.of_below hb fun _ h' => Nat.lt_trans h' h.pb.lt) fun _ h => h, (h.told.below hb fun _ h => h.2).wide fun _ h' => ⟨h'.1, Nat.lt_of_lt_of_le h'.2 hb.size⟩, h.fb.below hb h.fb.lt, h.gf⟩
open Num in
theorem ML.up {w1 wx : World} {u v : Value} {A D C : Int} {sch : List RM} {L : List Ev} {F : Ev} {gf : Nat} (h : ML w1 u A D C sch L v F gf wx) : MsgsAt wx (· < wx.heap.size) u sch := h.msgs.keep (fun _ _ _ => rfl) fun _ h' => Nat.lt_trans h' h.pb.lt
open Num in
theorem ML.list {w1 wx : World} {u v : Value} {A D C : Int} {sch : List RM} {L : List Ev} {F : Ev} {gf : Nat} (h : ML w1 u A D C sch L v F gf wx) : EvsAt wx (· < wx.heap.size) v L := h.told.wide fun _ h' => h'.2
open Num in
theorem ML.deeper {w1 wx : World} {u v : Value} {A D C D' : Int} {sch : List RM} {L : List Ev} {F : Ev} {gf : Nat} (h : ML w1 u A D C sch L v F gf wx) : ML w1 u A D' C sch L v F gf (wx.setCell ⟨w1.heap.size, 2, none⟩ (.int .i64 D')) := by
  have h1 := h.gf
  refine ⟨h.pb.set 2 _, h.msgs.keep (.of_set (p := ⟨w1.heap.size, 2, none⟩) _ (Nat.lt_irrefl _)) fun _ h => h, ?_, h.fb.other (a := ⟨w1.heap.size, 2, none⟩) (fun e => by have e2 : w1.heap.size = gf := e; omega) _, h.gf⟩
  exact (EvsAt.keep h.told (Kept.of_set (p := ⟨w1.heap.size, 2, none⟩) (.int .i64 D') fun hb => Nat.lt_irrefl _ hb.1) fun _ h => h).wide fun b hb => ⟨hb.1, by have := hb.2; simpa [World.setCell] using this⟩
open Num in
theorem ML.cells {w1 wx : World} {u v : Value} {A D C : Int} {sch : List RM} {L : List Ev} {k f b l : Int} {t : ByteArray} {c p : Int} {gf : Nat} (h : ML w1 u A D C sch L v ⟨k, f, b, l, t, c, p⟩ gf wx) :
    ((wx.cell? ⟨w1.heap.size, 0, none⟩ = some u ∧ wx.cell? ⟨w1.heap.size, 1, none⟩ = some (.int .i64 A) ∧ wx.cell? ⟨w1.heap.size, 2, none⟩ = some (.int .i64 D) ∧ wx.cell? ⟨w1.heap.size, 3, none⟩ = some (.int .i64 C)) ∧ wx.frozen? ⟨w1.heap.size, 2, none⟩ = false ∧ w1.heap.size < wx.heap.size) ∧
    (wx.cell? ⟨gf, 0, none⟩ = some (.int .i64 k) ∧ wx.cell? ⟨gf, 1, none⟩ = some (.int .i64 f) ∧ wx.cell? ⟨gf, 2, none⟩ = some (.int .u64 b) ∧ wx.cell? ⟨gf, 3, none⟩ = some (.int .i64 l) ∧ wx.cell? ⟨gf, 4, none⟩ = some (.string t) ∧ wx.cell? ⟨gf, 5, none⟩ = some (.int .i64 c) ∧ wx.cell? ⟨gf, 6, none⟩ = some (.int .i64 p)) ∧ gf < wx.heap.size :=
  ⟨⟨⟨(h.pb.2 0 (by simp)).1, (h.pb.2 1 (by simp)).1, (h.pb.2 2 (by simp)).1, (h.pb.2 3 (by simp)).1⟩, (h.pb.2 2 (by simp)).2, h.pb.lt⟩, ⟨(h.fb.2 0 (by simp [evC])).1, (h.fb.2 1 (by simp [evC])).1, (h.fb.2 2 (by simp [evC])).1, (h.fb.2 3 (by simp [evC])).1, (h.fb.2 4 (by simp [evC])).1, (h.fb.2 5 (by simp [evC])).1, (h.fb.2 6 (by simp [evC])).1⟩, h.fb.lt⟩
open Num in
theorem evAt {w : World} {g : Nat} {k f b l : Int} {t : ByteArray} {c p : Int} (h : Box w g [.int .i64 k, .int .i64 f, .int .u64 b, .int .i64 l, .string t, .int .i64 c, .int .i64 p]) : (w.cell? ⟨g, 0, none⟩ = some (.int .i64 k) ∧ w.cell? ⟨g, 1, none⟩ = some (.int .i64 f) ∧ w.cell? ⟨g, 2, none⟩ = some (.int .u64 b) ∧ w.cell? ⟨g, 3, none⟩ = some (.int .i64 l) ∧ w.cell? ⟨g, 4, none⟩ = some (.string t) ∧ w.cell? ⟨g, 5, none⟩ = some (.int .i64 c) ∧ w.cell? ⟨g, 6, none⟩ = some (.int .i64 p)) ∧ g < w.heap.size :=
  ⟨⟨(h.2 0 (by simp)).1, (h.2 1 (by simp)).1, (h.2 2 (by simp)).1, (h.2 3 (by simp)).1, (h.2 4 (by simp)).1, (h.2 5 (by simp)).1, (h.2 6 (by simp)).1⟩, h.lt⟩
open Num in
theorem readR_len {sch : List RM} {A B C shape : Int} {s : ByteArray} {a E deep : Int} : (readR sch A B C shape s a E deep).1.length ≤ 4 * s.size := by
  unfold readR
  split
  · next h =>
    unfold rdOkB at h
    simp only [Bool.and_eq_true, decide_eq_true_eq] at h
    obtain ⟨⟨⟨⟨_, _⟩, h1⟩, h2⟩, _⟩ := h
    have hadv := msgRd_adv (s := s) (sch := sch) (D := B) (s.size + 1) shape E deep ⟨a.toNat, [], zeroE⟩ (by show a.toNat ≤ s.size; omega) (by show ((a.toNat : Nat) : Int) ≤ E; omega)
    have k1 := hadv.len
    have k2 := hadv.inn
    have k3 : (⟨a.toNat, [], zeroE⟩ : RdM).out.length = 0 := rfl
    rw [k3] at k1
    show (msgRd s sch B (s.size + 1) shape E deep ⟨a.toNat, [], zeroE⟩).out.length ≤ _
    omega
  · exact Nat.zero_le _
open Num in
theorem wpList_at {P : Program} {ops : Array Oper} {rest : List Oper} {o : Oper} {a : Act} {w : World} {Q : Exit → Act → World → Prop} (h : Region.wanted o (yielded ops a.tmps) = true) (hK : ∀ K : Act → World → Prop, (∀ a w, wpList P ops Q rest a w → K a w) → o.wp P a w K Q) : wpList P ops Q (o :: rest) a w := by
  unfold wpList
  rw [if_pos h]
  exact .inl (hK _ fun _ _ h => h)
open Num in
theorem wpList_wanted {P : Program} {ops : Array Oper} {rest : List Oper} {o : Oper} {a : Act} {w : World} {Q : Exit → Act → World → Prop} (h : Region.wanted o (yielded ops a.tmps) = true) (hK : o.wp P a w (wpList P ops Q rest) Q) : wpList P ops Q (o :: rest) a w := by
  unfold wpList
  rw [if_pos h]
  exact .inl hK
open Num in
set_option maxHeartbeats 8000000 in
set_option maxRecDepth 100000 in
theorem walk (a0 : Option Addr) (len0 cap0 : Nat) (z0 : List Int) (w : World) (w0 : IsRow .u8 w a0 len0 cap0 z0) :
    Calls Tryz.prog 5 #[.slice a0 len0 cap0] w fun e w' => e = .returned (.bool true) ∧ Below w.heap.size w w' := by
  by_cases hb : 1048576 < len0
  · clear w0
    go_enter Tryz.func5, Tryz.ntmps5
    go_wp2
    go_ret
    exact ⟨rfl, Below.refl _ _⟩
  · have hcode := codeOf w0 (by omega)
    have Hcode := Lib.hid hcode
    clear w0 hcode
    go_enter Tryz.func5, Tryz.ntmps5
    go_wp2_with (go_at_call 16; go_in)
    refine (drawReadMsg_any a0 len0 cap0 _ Hcode.out).mono ?_
    rintro e w1 ⟨u, sch, A, D, C, shape, s, x, E, deep, Hd0, rfl, hm, hb1⟩
    obtain ⟨ua, uc, rfl⟩ := MsgsAt.len hm
    have Hd := Lib.hid Hd0
    have hbP : Below w1.heap.size w1 (w1.alloc (.cells #[.slice ua sch.length uc, .int .i64 A, .int .i64 D, .int .i64 C] 28)) := (Below.refl _ _).alloc (Nat.le_refl _) _
    have hx2 := Box.fresh w1 #[.slice ua sch.length uc, .int .i64 A, .int .i64 D, .int .i64 C] 28
    have hm1 : MsgsAt w1 (· < w1.heap.size) (.slice ua sch.length uc) sch := hm.keep (fun _ _ _ => rfl) fun _ h => h.2
    have hm2 : MsgsAt (w1.alloc (.cells #[.slice ua sch.length uc, .int .i64 A, .int .i64 D, .int .i64 C] 28)) (· < w1.heap.size) (.slice ua sch.length uc) sch := hm1.keep (.of_below hbP fun _ h => h) fun _ h => h
    have HCall : Hid (∀ (D' : Int) (s' : ByteArray) (x' E' : Int), s'.size ≤ 200000000 → (-9223372036854775808 ≤ x' ∧ x' ≤ 9223372036854775807) → (-9223372036854775808 ≤ E' ∧ E' ≤ 9223372036854775807) → (∀ w, Num.MsgsAt w (· < w.heap.size) (.slice ua sch.length uc) sch → Calls Tryz.prog 18 #[.agg #[.slice ua sch.length uc, .int .i64 A, .int .i64 D', .int .i64 C], .int .i64 shape, .string s', .int .i64 x', .int .i64 E', .int .i64 deep] w fun e w' => ∃ v cap, e = .returned (.tuple #[.slice v (readR sch A D' C shape s' x' E' deep).1.length cap, evV (readR sch A D' C shape s' x' E' deep).2]) ∧ Num.OwnE w' w.heap.size 34 (.slice v (readR sch A D' C shape s' x' E' deep).1.length cap) (readR sch A D' C shape s' x' E' deep).1 ∧ Below w.heap.size w w') ∧ (∀ w, Num.MsgsAt w (· < w.heap.size) (.slice ua sch.length uc) sch → Calls Tryz.prog 19 #[.agg #[.slice ua sch.length uc, .int .i64 A, .int .i64 D', .int .i64 C], .int .i64 shape, .string s', .int .i64 x', .int .i64 E', .int .i64 deep] w fun e w' => ∃ v cap, e = .returned (.tuple #[.slice v (readR sch A D' C shape s' x' E' deep).1.length cap, evV (readR sch A D' C shape s' x' E' deep).2]) ∧ Num.OwnE w' w.heap.size 34 (.slice v (readR sch A D' C shape s' x' E' deep).1.length cap) (readR sch A D' C shape s' x' E' deep).1 ∧ Below w.heap.size w w')) := Lib.hid fun D' s' x' E' h1 h2 h3 =>
      ⟨fun w h => implReadMsg_any (.slice ua sch.length uc) sch A D' C shape x' E' deep s' w h Hd0.small h1 ⟨by have := Hd0.shape; omega, h2, h3, by have := Hd0.deep; omega⟩, fun w h => specReadMsg_any (.slice ua sch.length uc) sch A D' C shape x' E' deep s' w h Hd0.small h1 h3.2⟩
    have hsz := Hd0.size
    have hpl := Hd0.place
    have hup := Hd0.upto
    have hdp := Hd0.deep
    have hpn := Hd0.plan
    have hC1 := HCall.out D s x E (by omega) (by omega) (by omega)

    obtain ⟨Z, hZ⟩ : ∃ Z, readR sch A D C shape s x E deep = Z := ⟨_, rfl⟩
    have hLn : Z.1.length ≤ 4 * s.size := by rw [← hZ]; exact readR_len
    rw [hZ] at hC1 
    obtain ⟨L, ⟨k, f, b, l, t, c, p⟩⟩ := Z
    unfold evV at hC1
    simp only at hC1 hLn 
    have HI : Hid (∀ w, Num.MsgsAt w (· < w.heap.size) (.slice ua sch.length uc) sch → Calls Tryz.prog 18 #[.agg #[.slice ua sch.length uc, .int .i64 A, .int .i64 D, .int .i64 C], .int .i64 shape, .string s, .int .i64 x, .int .i64 E, .int .i64 deep] w fun e w' => ∃ v cap, e = .returned (.tuple #[.slice v L.length cap, .agg #[.int .i64 k, .int .i64 f, .int .u64 b, .int .i64 l, .string t, .int .i64 c, .int .i64 p]]) ∧ Num.OwnE w' w.heap.size 34 (.slice v L.length cap) L ∧ Below w.heap.size w w') := Lib.hid hC1.1
    have HS : Hid (∀ w, Num.MsgsAt w (· < w.heap.size) (.slice ua sch.length uc) sch → Calls Tryz.prog 19 #[.agg #[.slice ua sch.length uc, .int .i64 A, .int .i64 D, .int .i64 C], .int .i64 shape, .string s, .int .i64 x, .int .i64 E, .int .i64 deep] w fun e w' => ∃ v cap, e = .returned (.tuple #[.slice v L.length cap, .agg #[.int .i64 k, .int .i64 f, .int .u64 b, .int .i64 l, .string t, .int .i64 c, .int .i64 p]]) ∧ Num.OwnE w' w.heap.size 34 (.slice v L.length cap) L ∧ Below w.heap.size w w') := Lib.hid hC1.2
    have HZ := Lib.hid hZ
    obtain ⟨d0, df0⟩ := hx2.2 0 (by simp)
    obtain ⟨d1, df1⟩ := hx2.2 1 (by simp)
    obtain ⟨d2, df2⟩ := hx2.2 2 (by simp)
    obtain ⟨d3, df3⟩ := hx2.2 3 (by simp)
    have dz := hx2.lt
    simp only [List.getElem_cons_succ, List.getElem_cons_zero] at d0 d1 d2 d3
    clear hm hC1 hZ Hcode Hd0 hm1
    unfold planV
    go_wp2_with fail
    generalize (w1.alloc (.cells #[.slice ua sch.length uc, .int .i64 A, .int .i64 D, .int .i64 C] 28)) = w2 at hbP hx2 hm2 d0 d1 d2 d3 df0 df1 df2 df3 dz ⊢
    refine (HI.out _ (hm2.keep (fun _ _ _ => rfl) fun _ h => Nat.lt_trans h hx2.lt)).mono ?_
    rintro e w3 ⟨v, cap, rfl, hown, hb3⟩
    have HW1 : Hid (w.heap.size ≤ w1.heap.size) := Lib.hid hb1.size
    have HV : Hid (v = none → L.length = 0 ∧ cap = 0) := Lib.hid fun e => by
      rcases hown.form with ⟨h1, h2⟩ | ⟨g, c, h1, _⟩
      · injection h1 with e1 e2 e3; exact ⟨e2, e3⟩
      · injection h1 with e1 e2 e3; rw [e] at e1; cases e1
    have hl3 := Lib.hid ((hb1.trans (hbP.mono hb1.size)).trans (hb3.mono (by have := hb1.size; have := hx2.lt; omega)))
    have hx3 := hx2.below hb3 hx2.lt
    have hm3 : MsgsAt w3 (· < w1.heap.size) (.slice ua sch.length uc) sch := hm2.keep (.of_below hb3 fun _ h => Nat.lt_trans h hx2.lt) fun _ h => h
    have M4 : Hid (ML w1 (.slice ua sch.length uc) A D C sch L (.slice v L.length cap) ⟨k, f, b, l, t, c, p⟩ w3.heap.size (w3.alloc (.cells #[.int .i64 k, .int .i64 f, .int .u64 b, .int .i64 l, .string t, .int .i64 c, .int .i64 p] 34))) := Lib.hid ⟨hx3.alloc _, hm3.keep (.of_below ((Below.refl w3.heap.size w3).alloc (Nat.le_refl _) _) fun _ h => Nat.lt_trans h hx3.lt) fun _ h => h, (hown.alloc _).evsAt.wide (fun b hb => ⟨by have := hb.1; have := hx2.lt; omega, hb.2⟩), Box.fresh w3 _ _, hx3.lt⟩
    have hl4 := Lib.hid (hl3.out.alloc (by have := hb1.size; have := hb3.size; have := hx2.lt; omega) (.cells #[.int .i64 k, .int .i64 f, .int .u64 b, .int .i64 l, .string t, .int .i64 c, .int .i64 p] 34))
    clear d0 d1 d2 d3 df0 df1 df2 df3 dz hbP hx2 hm2 hown hb3 hx3 hm3 hl3 hb1
    obtain ⟨⟨⟨d0, d1, d2, d3⟩, df, dz⟩, ⟨m0, m1, m2, m3, m4, m5, m6⟩, mz⟩ := M4.out.cells
    go_wp2_with fail
    generalize hgf : w3.heap.size = gf at M4 m0 m1 m2 m3 m4 m5 m6 mz ⊢
    generalize (w3.alloc (.cells #[.int .i64 k, .int .i64 f, .int .u64 b, .int .i64 l, .string t, .int .i64 c, .int .i64 p] 34)) = w4 at M4 hl4 d0 d1 d2 d3 df dz m0 m1 m2 m3 m4 m5 m6 mz ⊢
    refine (HS.out _ M4.out.up).mono ?_
    rintro e w5 ⟨v', cap', rfl, hown', hb5⟩
    have M5 := M4.out.below hb5
    have M6 := Lib.hid (M5.below ((Below.refl w5.heap.size w5).alloc (Nat.le_refl _) (.cells #[.int .i64 k, .int .i64 f, .int .u64 b, .int .i64 l, .string t, .int .i64 c, .int .i64 p] 34)))
    have hT6 := Box.fresh w5 #[.int .i64 k, .int .i64 f, .int .u64 b, .int .i64 l, .string t, .int .i64 c, .int .i64 p] 34
    obtain ⟨⟨t0, t1, t2, t3, t4, t5, t6⟩, tz⟩ := evAt hT6
    have hl6 := Lib.hid ((hl4.out.trans (hb5.mono hl4.out.size)).alloc (by have := hl4.out.size; have := hb5.size; omega) (.cells #[.int .i64 k, .int .i64 f, .int .u64 b, .int .i64 l, .string t, .int .i64 c, .int .i64 p] 34))
    clear d0 d1 d2 d3 df dz m0 m1 m2 m3 m4 m5 m6 mz
    clear M4 M5 hl4 hown' hb5 hT6 hgf
    obtain ⟨⟨⟨d0, d1, d2, d3⟩, df, dz⟩, ⟨m0, m1, m2, m3, m4, m5, m6⟩, mz⟩ := M6.out.cells
    by_cases h6 : c = 6
    · subst h6
      go_wp2_with fail
      go_ret
      exact ⟨rfl, hl6.out⟩
    · have n6 : (c == 6) = false := neI h6
      by_cases h8 : 8 ≤ D
      · have b8 : decide (8 ≤ D) = true := decide_eq_true h8
        go_wp2_with fail
        go_ret
        exact ⟨rfl, hl6.out⟩
      · have b8 : decide (8 ≤ D) = false := decide_eq_false h8
        have HPl : Hid (∀ w, Num.MsgsAt w (· < w.heap.size) (.slice ua sch.length uc) sch → Calls Tryz.prog 23 #[.agg #[.slice ua sch.length uc, .int .i64 A, .int .i64 D, .int .i64 C]] w fun e w' => e = .returned (.bool (planB sch A D C)) ∧ Below w.heap.size w w') := Lib.hid fun w h => specPlanOk_any (.slice ua sch.length uc) sch A D C w h Hd.out.small
        obtain ⟨q, hq⟩ : ∃ q, planB sch A D C = q := ⟨_, rfl⟩
        rw [hq] at HPl
        have Hq := Lib.hid hq
        have Hc := Lib.hid h6
        clear hq h6
        go_wp2_with fail
        generalize w5.heap.size = gt at t0 t1 t2 t3 t4 t5 t6 tz ⊢
        generalize (w5.alloc (.cells #[.int .i64 k, .int .i64 f, .int .u64 b, .int .i64 l, .string t, .int .i64 c, .int .i64 p] 34)) = w6 at M6 hl6 d0 d1 d2 d3 df dz m0 m1 m2 m3 m4 m5 m6 mz t0 t1 t2 t3 t4 t5 t6 tz ⊢
        refine (HPl.out _ M6.out.up).mono ?_
        rintro e w7 ⟨rfl, hb7⟩
        have M7 := Lib.hid (M6.out.below hb7)
        have hl7 := Lib.hid (hl6.out.trans (hb7.mono hl6.out.size))
        clear d0 d1 d2 d3 df dz m0 m1 m2 m3 m4 m5 m6 mz
        clear M6 hl6 hb7 t0 t1 t2 t3 t4 t5 t6 tz
        obtain ⟨⟨⟨d0, d1, d2, d3⟩, df, dz⟩, ⟨m0, m1, m2, m3, m4, m5, m6⟩, mz⟩ := M7.out.cells
        cases q with
        | false =>
          go_wp2_with fail
          go_ret
          exact ⟨rfl, hl7.out⟩
        | true =>
          have hwD : IntKind.i64.wrap (D + 1) = D + 1 := IntWalk.i64_in _ (by omega)
          have hpl2 : planB sch A (D + 1) C = planB sch A D C := by
            have h := Hq.out
            rw [h]
            unfold planB at h ⊢
            simp only [Bool.and_eq_true, decide_eq_true_eq] at h ⊢
            exact ⟨h.1, h.2.1, by omega, h.2.2.2⟩
          have hC2 := (HCall.out (D + 1) s x E (by omega) (by omega) (by omega)).1
          obtain ⟨Y, hY⟩ : ∃ Y, readR sch A (D + 1) C shape s x E deep = Y := ⟨_, rfl⟩
          have hYn : Y.1.length ≤ 4 * s.size := by rw [← hY]; exact readR_len
          have hsame : deep ≠ D + 1 → Y = (L, ⟨k, f, b, l, t, c, p⟩) := fun hd => by
            have h := readR_deep (sch := sch) (A := A) (B := D) (C := C) (shape := shape) (s := s) (a := x) (E := E) (deep := deep) (by rw [HZ.out]; exact Hc.out) hpl2 hd
            rw [← hY, h, HZ.out]
          rw [hY] at hC2
          obtain ⟨L2, ⟨k2, f2, b2, l2, tt2, c2, p2⟩⟩ := Y
          unfold evV at hC2
          simp only at hC2 hYn
          have HI2 : Hid (∀ w, Num.MsgsAt w (· < w.heap.size) (.slice ua sch.length uc) sch → Calls Tryz.prog 18 #[.agg #[.slice ua sch.length uc, .int .i64 A, .int .i64 (D + 1), .int .i64 C], .int .i64 shape, .string s, .int .i64 x, .int .i64 E, .int .i64 deep] w fun e w' => ∃ v cap, e = .returned (.tuple #[.slice v L2.length cap, .agg #[.int .i64 k2, .int .i64 f2, .int .u64 b2, .int .i64 l2, .string tt2, .int .i64 c2, .int .i64 p2]]) ∧ Num.OwnE w' w.heap.size 34 (.slice v L2.length cap) L2 ∧ Below w.heap.size w w') := Lib.hid hC2
          have Hsame := Lib.hid hsame
          clear hY hC2 hsame hpl2
          have M8 := Lib.hid (M7.out.deeper (D' := D + 1))
          have hl8 := Lib.hid (hl7.out.setCell (p := ⟨w1.heap.size, 2, none⟩) HW1.out (.int .i64 (D + 1)))
          go_wp2_with fail
          refine (HI2.out _ M8.out.up).mono ?_
          rintro e w9 ⟨v2, cap2, rfl, hown9, hb9⟩
          have M9 := M8.out.below hb9
          have M10 := Lib.hid (M9.below ((Below.refl w9.heap.size w9).alloc (Nat.le_refl _) (.cells #[.int .i64 k2, .int .i64 f2, .int .u64 b2, .int .i64 l2, .string tt2, .int .i64 c2, .int .i64 p2] 34)))
          have hT := Box.fresh w9 #[.int .i64 k2, .int .i64 f2, .int .u64 b2, .int .i64 l2, .string tt2, .int .i64 c2, .int .i64 p2] 34
          obtain ⟨⟨t0, t1, t2, t3, t4, t5, t6⟩, tz⟩ := evAt hT
          have hl10 := Lib.hid ((hl8.out.trans (hb9.mono hl8.out.size)).alloc (by have := hl8.out.size; have := hb9.size; omega) (.cells #[.int .i64 k2, .int .i64 f2, .int .u64 b2, .int .i64 l2, .string tt2, .int .i64 c2, .int .i64 p2] 34))
          have HL2 := Lib.hid (hown9.alloc (.cells #[.int .i64 k2, .int .i64 f2, .int .u64 b2, .int .i64 l2, .string tt2, .int .i64 c2, .int .i64 p2] 34)).evsAll
          clear d0 d1 d2 d3 df dz m0 m1 m2 m3 m4 m5 m6 mz
          clear M7 hl7 M8 hl8 M9 hT hown9 hb9
          obtain ⟨⟨⟨d0, d1, d2, d3⟩, df, dz⟩, ⟨m0, m1, m2, m3, m4, m5, m6⟩, mz⟩ := M10.out.cells
          by_cases hdD : deep = D + 1
          · have bd : (deep == D + 1) = true := by simp [hdD]
            have bd2 : (D + 1 == D + 1) = true := by simp
            clear hdD
            go_wp2_with fail
            go_ret
            exact ⟨rfl, hl10.out⟩
          · have bd : (deep == D + 1) = false := neI hdD
            have he := Hsame.out hdD
            injection he with e1 e2
            injection e2 with e2 e3 e4 e5 e6 e7 e8
            subst e1 e2 e3 e4 e5 e6 e7 e8
            clear hdD
            go_wp2_with fail
            refine (specSameEvents_any _ _ L2 L2 _ HL2.out M10.out.list (by omega) (by omega)).mono ?_
            rw [decide_eq_true (show L2 = L2 from rfl)]
            rintro e wa ⟨rfl, hba⟩
            have hla := hl10.out.trans (hba.mono hl10.out.size)
            go_wp2_with fail
            go_ret
            exact ⟨rfl, hla⟩

/-! ### THE ROW's STEP: WRITTEN OUT: LEAVE IT -/
set_option maxRecDepth 100000 in
theorem lifted (os : Os) (started : os.Started) (H : Type) (enc : TypeId × Value → H) :
    ReturnsInHanded {} Tryz.checked os 5 .any (Rows.fnMsgDeepSpec.pre6 enc Tryz.prog Tryz.f5 Rows.fnMsgDeepRow.domain false) (Rows.fnMsgDeepSpec.post enc Tryz.prog Tryz.f5 false true false false) := by
  refine returnsInHanded_of_change (C := Tryz.checked) own started (by kernel_rfl) Tryz.func5
    (ChangeSpec.witness6 (enc := enc) (C := Tryz.checked) false ⟨#[], #[.slice none 0 0], []⟩ 8 (by kernel_rfl) (by kernel_rfl) (by kernel_rfl) (by kernel_rfl)) ?_
  intro W base args ds gs before hval0 hW hcnd _
  have hval : ∀ (j : Nat) t v, Tryz.f5.params[j]? = some t → args[j]? = some v → Value.okWide Tryz.prog W .any base t v := hval0
  have hW' := hW
  obtain ⟨p, q, hA0, hV, rfl, hfz, hnd⟩ := hW
  have hA : DataW.TrodAll enc Tryz.prog W 0 (fun _ => true) true Tryz.f5.params.toList args.toList ds p := hA0
  rw [Tryz.params5] at hA hval
  obtain ⟨v0, vs0, d0, ds0, p0, q0, hargs, rfl, rfl, h0, r0⟩ := trodAll_cons hA
  obtain ⟨rfl, rfl, rfl⟩ := trodAll_nil r0
  obtain rfl : args = #[v0] := by cases args; simp_all
  obtain ⟨rfl, rfl⟩ := trodVars_none hV
  obtain ⟨a0, len0, cap0, rfl⟩ := okWide_slice Tryz.underlying22 (hval 0 22 v0 rfl rfl)
  have k0 := h0
  have lt0 : ∀ x ∈ p0, x.block < W.heap.size := by obtain ⟨m, hm⟩ := k0; exact DataW.trod_lt m _ _ _ hm
  obtain ⟨z0, w0⟩ : ∃ zs, IsRow .u8 W a0 len0 cap0 zs := by
    obtain ⟨fuel, hf⟩ := h0
    rcases open_ints Tryz.underlying22 Tryz.underlying5 (by kernel_rfl) hf with ⟨hcs, _⟩ | ⟨x, l, c, zs, hcs, _, hl, hm, hz, _, hcell, hwz⟩
    · simp [Value.cells] at hcs
      obtain ⟨rfl, rfl, rfl⟩ := hcs
      exact ⟨[], .inl ⟨rfl, rfl, rfl, rfl⟩⟩
    · simp [Value.cells] at hcs
      obtain ⟨rfl, rfl, rfl⟩ := hcs
      exact ⟨zs, .inr ⟨_, rfl, hl, hm, by simpa using hz, hcell, hwz⟩⟩
  clear hA0 hval0
  refine (walk a0 len0 cap0 z0 W w0).mono fun e W' ⟨he, bel⟩ => ?_
  subst he
  exact ⟨_, rfl, _, _, _, [], _, [], hW', trodAll_mk1 (shut_bool Tryz.underlying4 _), (trodAll_cons_mk (Below.trod laidOut (by kernel_rfl) (of_decide_eq_true (by kernel_rfl)) k0 bel lt0) trodAll_mk0), rfl, bel.frame _, fun h => by cases h⟩

theorem over : Rows.fnMsgDeepRow.holds Tryz.pinned (OpenSpec.ofChange Rows.fnMsgDeepSpec) :=
  OpenClaim.holds_of_wide 5 Tryz.f5 rfl rfl rfl rfl rfl rfl rfl ⟨rfl, rfl, rfl, rfl, rfl⟩ rfl rfl rfl rfl rfl (by kernel_rfl) Tryz.func5 (by kernel_rfl)
    (of_decide_eq_true (by kernel_rfl)) (by unfold Func.isWrapper; first | (rw [if_pos (by decide +kernel)]; kernel_rfl) | (rw [if_neg (by decide +kernel)]; exact ⟨rfl, rfl⟩))
    (fun os started H enc _ => lifted os started H enc)

/-- ████ THE STATEMENT ████ -/
theorem proved : Rows.FnMsgDeepSaid := over
end Go.Proofs.YtpkofbdfnbpfpaaGreat.fnMsgDeep
