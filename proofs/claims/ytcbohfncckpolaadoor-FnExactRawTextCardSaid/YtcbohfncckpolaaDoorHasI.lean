/-
  The walks of the program's hasId and hasNumber, which ask slices.ContainsFunc with a closure: whether a message has this Id, or a field this Number; only new memory is written.
-/
import Derived.Test.YtcbohfncckpolaaDoorCheck
namespace Go.Proofs.YtcbohfncckpolaaDoor.Num
open Go.RowKit Go.Proofs
set_option linter.unusedVariables false
set_option linter.unusedSimpArgs false

theorem eqB2 (x : Int) : (x == x) = true := by rw [beq_iff_eq]
/-- The closure that hasId hands over: whether the message has the captured Id. -/
theorem isIdF_any (x id : Int) (a : Option Addr) (n c : Nat) (g : Nat) (R : Bool) (w : World) (hg : Box w g [.int .i64 id]) (tell : (x == id) = R) :
    Calls Tryd.prog 120 #[.agg #[.int .i64 x, .slice a n c], .pointer (some ⟨g, 0, none⟩)] w fun e w' => e = .returned (.bool R) ∧ Below w.heap.size w w' := by
  have hz := hg.lt
  have hb : Below w.heap.size w (w.alloc (.cells #[.int .i64 x, .slice a n c] 67)) := (Below.refl _ _).alloc (Nat.le_refl _) _
  obtain ⟨c0, _⟩ := (hg.below hb hz).one
  go_enter Tryd.func120, Tryd.ntmps120
  go_wp2_with fail
  go_ret
  exact ⟨rfl, hb⟩
theorem isNumF_any (f : RF) (x : Int) (g : Nat) (R : Bool) (w : World) (hg : Box w g [.int .i64 x]) (tell : (f.1 == x) = R) :
    Calls Tryd.prog 122 #[fieldV f, .pointer (some ⟨g, 0, none⟩)] w fun e w' => e = .returned (.bool R) ∧ Below w.heap.size w w' := by
  obtain ⟨A1, A2, A3, A4, A5⟩ := f
  unfold fieldV
  simp only at tell ⊢
  have hz := hg.lt
  have hb : Below w.heap.size w (w.alloc (.cells #[.int .i64 A1, .int .i64 A2, .bool A3, .bool A4, .int .i64 A5] 25)) := (Below.refl _ _).alloc (Nat.le_refl _) _
  obtain ⟨c0, _⟩ := (hg.below hb hz).one
  go_enter Tryd.func122, Tryd.ntmps122
  go_wp2_with fail
  go_ret
  exact ⟨rfl, hb⟩
set_option maxHeartbeats 2000000 in
theorem idxId_any (v : Value) (l : List RM) (x : Int) (g : Nat) (R : Bool) (w : World) (S : Nat → Prop) (hS : ∀ b, S b → b < w.heap.size) (hv : MsgsAt w S v l) (hl : l.length ≤ 1048576) (hg : Box w g [.int .i64 x]) (tell : hasId l x l.length = R) :
    Calls Tryd.prog 130 #[v, .func (.func 120) #[] #[.pointer (some ⟨g, 0, none⟩)]] w fun e w' => (∃ i : Int, ((R = true ∧ 0 ≤ i) ∨ (R = false ∧ i = -1)) ∧ e = .returned (.int .i64 i)) ∧ Below w.heap.size w w' := by
  have HR := Lib.hid tell
  have HG := Lib.hid hg
  have HS := Lib.hid hS
  clear tell hg hS
  obtain ⟨a, cap, rfl⟩ := hv.len
  have H := Lib.hid hv
  clear hv
  go_enter Tryd.func130, Tryd.ntmps130
  go_wp2_with fail
  go_loopw [8] (fun i wr => ∃ k : Nat, k ≤ l.length ∧ i = .int .i64 k ∧ Hid (∀ j (hj : j < l.length), j < k → l[j].1 ≠ x) ∧ Below w.heap.size w wr) (fun i _ => l.length - (intOf i).toNat)
  case atStart => exact ⟨0, by omega, rfl, Lib.hid fun j _ hj => by omega, Below.refl _ _⟩
  case round =>
    obtain ⟨k, hk, rfl, hno, hbr⟩ := hrel
    by_cases hlt : k < l.length
    · have hlti : (k : Int) < (l.length : Int) := by omega
      obtain ⟨b, o, c, hv, hbS, hcs⟩ := H.out.cells (by omega)
      obtain ⟨rfl, rfl⟩ : a = some ⟨b, o, none⟩ ∧ cap = c := by injection hv with e1 e2 e3; exact ⟨e1, e3⟩
      have hbC := HS.out _ hbS
      have hbw : b < wr.heap.size := Nat.lt_of_lt_of_le hbC hbr.size
      have hgr := HG.out.below hbr HG.out.lt
      obtain ⟨Q, hQ⟩ : ∃ Q, (l[k].1 == x) = Q := ⟨_, rfl⟩
      have Hyes : Hid (Q = true → R = true) := Lib.hid fun h => by
        have e : l[k].1 = x := by rw [h] at hQ; exact beq_iff_eq.1 hQ
        rw [← HR.out]; exact hasId_yes (n := l.length) hlt hlt e
      have Hn : Hid (Q = false → ∀ j (hj : j < l.length), j < k + 1 → l[j].1 ≠ x) := Lib.hid fun h j hj hjk => by
        by_cases e : j = k
        · subst e; rw [h] at hQ; exact beq_eq_false_iff_ne.1 hQ
        · exact hno.out j hj (by omega)
      obtain ⟨u, d0, d1, hx⟩ := hcs k hlt
      obtain ⟨xa, xc, rfl⟩ := hx.len
      rw [← hbr.cell (p := ⟨b, _, none⟩) hbC] at d0 d1
      have Hc := Lib.hid (isIdF_any l[k].1 x xa l[k].2.length xc g Q wr hgr hQ)
      clear hcs hv hx hno hQ hbS hgr
      generalize l[k] = m at d0 d1 Hc
      obtain ⟨y, fs⟩ := m
      simp only at d0 d1 Hc
      go_wp2_with fail
      refine Hc.out.mono ?_
      rintro e w2 ⟨rfl, hb2⟩
      have hb3 := hbr.trans (hb2.mono hbr.size)
      clear hb2
      cases Q with
      | true =>
        have hR := Hyes.out rfl
        clear Hyes Hn
        go_wp2_with fail
        go_ret
        exact ⟨⟨k, .inl ⟨hR, by omega⟩, rfl⟩, hb3⟩
      | false =>
        have Hn' := Lib.hid (Hn.out rfl)
        clear Hyes Hn
        go_wp2_with fail
        go_roundw
        case rel => exact ⟨k + 1, by omega, by go_num, Hn', hb3⟩
        case measure => simp [intOf]; omega
    · have hge : (l.length : Int) ≤ (k : Int) := by omega
      have hend : decide (k < l.length) = false := decide_eq_false hlt
      have hR : R = false := by rw [← HR.out]; exact hasId_no (n := l.length) fun j hj hjn => hno.out j hj (by omega)
      go_wp2_with fail
      go_ret
      exact ⟨⟨-1, .inr ⟨hR, rfl⟩, rfl⟩, hbr⟩
theorem containsId_any (v : Value) (l : List RM) (x : Int) (g : Nat) (R : Bool) (w : World) (S : Nat → Prop) (hS : ∀ b, S b → b < w.heap.size) (hv : MsgsAt w S v l) (hl : l.length ≤ 1048576) (hg : Box w g [.int .i64 x]) (tell : hasId l x l.length = R) :
    Calls Tryd.prog 119 #[v, .func (.func 120) #[] #[.pointer (some ⟨g, 0, none⟩)]] w fun e w' => e = .returned (.bool R) ∧ Below w.heap.size w w' := by
  have H := Lib.hid (idxId_any v l x g R w S hS hv hl hg tell)
  clear hS hv hg tell
  go_enter Tryd.func119, Tryd.ntmps119
  go_wp2_with fail
  refine H.out.mono ?_
  rintro e w1 ⟨⟨i, hi, rfl⟩, hb⟩
  rcases hi with ⟨rfl, hi⟩ | ⟨rfl, rfl⟩
  · go_wp2_with fail
    go_ret
    exact ⟨rfl, hb⟩
  · go_wp2_with fail
    go_ret
    exact ⟨rfl, hb⟩
/-- The program's hasId. -/
theorem iHasId_any (v : Value) (l : List RM) (x : Int) (R : Bool) (w : World) (S : Nat → Prop) (hS : ∀ b, S b → b < w.heap.size) (hv : MsgsAt w S v l) (hl : l.length ≤ 1048576) (tell : hasId l x l.length = R) :
    Calls Tryd.prog 104 #[v, .int .i64 x] w fun e w' => e = .returned (.bool R) ∧ Below w.heap.size w w' := by
  have hb : Below w.heap.size w (w.alloc (.cells #[.int .i64 x] 3)) := (Below.refl _ _).alloc (Nat.le_refl _) _
  have H := Lib.hid (containsId_any v l x w.heap.size R (w.alloc (.cells #[.int .i64 x] 3)) S (fun b h => Nat.lt_of_lt_of_le (hS b h) hb.size) (hv.keep (.of_below hb hS) fun _ h => h) hl (Box.fresh _ _ _) tell)
  clear hS hv tell
  go_enter Tryd.func104, Tryd.ntmps104
  go_wp2_with fail
  refine H.out.mono ?_
  rintro e w1 ⟨rfl, hb1⟩
  have hb2 := hb.trans (hb1.mono hb.size)
  clear hb hb1
  go_wp2_with fail
  go_ret
  exact ⟨rfl, hb2⟩
set_option maxHeartbeats 2000000 in
theorem idxNum_any (v : Value) (l : List RF) (x : Int) (g : Nat) (R : Bool) (w : World) (S : Nat → Prop) (hS : ∀ b, S b → b < w.heap.size) (hv : FieldsAt w S v l) (hl : l.length ≤ 1048576) (hg : Box w g [.int .i64 x]) (tell : hasNum l x = R) :
    Calls Tryd.prog 131 #[v, .func (.func 122) #[] #[.pointer (some ⟨g, 0, none⟩)]] w fun e w' => (∃ i : Int, ((R = true ∧ 0 ≤ i) ∨ (R = false ∧ i = -1)) ∧ e = .returned (.int .i64 i)) ∧ Below w.heap.size w w' := by
  have HR := Lib.hid tell
  have HG := Lib.hid hg
  have HS := Lib.hid hS
  clear tell hg hS
  obtain ⟨a, cap, rfl⟩ := hv.len
  have H := Lib.hid hv
  clear hv
  go_enter Tryd.func131, Tryd.ntmps131
  go_wp2_with fail
  go_loopw [8] (fun i wr => ∃ k : Nat, k ≤ l.length ∧ i = .int .i64 k ∧ Hid (∀ j (hj : j < l.length), j < k → l[j].1 ≠ x) ∧ Below w.heap.size w wr) (fun i _ => l.length - (intOf i).toNat)
  case atStart => exact ⟨0, by omega, rfl, Lib.hid fun j _ hj => by omega, Below.refl _ _⟩
  case round =>
    obtain ⟨k, hk, rfl, hno, hbr⟩ := hrel
    by_cases hlt : k < l.length
    · have hlti : (k : Int) < (l.length : Int) := by omega
      obtain ⟨b, o, c, hv, hbS, hcs⟩ := H.out.cells (by omega)
      obtain ⟨rfl, rfl⟩ : a = some ⟨b, o, none⟩ ∧ cap = c := by injection hv with e1 e2 e3; exact ⟨e1, e3⟩
      have hbC := HS.out _ hbS
      have hbw : b < wr.heap.size := Nat.lt_of_lt_of_le hbC hbr.size
      have hgr := HG.out.below hbr HG.out.lt
      obtain ⟨Q, hQ⟩ : ∃ Q, (l[k].1 == x) = Q := ⟨_, rfl⟩
      have Hyes : Hid (Q = true → R = true) := Lib.hid fun h => by
        have e : l[k].1 = x := by rw [h] at hQ; exact beq_iff_eq.1 hQ
        rw [← HR.out]; exact hasNum_yes hlt e
      have Hn : Hid (Q = false → ∀ j (hj : j < l.length), j < k + 1 → l[j].1 ≠ x) := Lib.hid fun h j hj hjk => by
        by_cases e : j = k
        · subst e; rw [h] at hQ; exact beq_eq_false_iff_ne.1 hQ
        · exact hno.out j hj (by omega)
      obtain ⟨d0, d1, d2, d3, d4⟩ := hcs k hlt
      rw [← hbr.cell (p := ⟨b, _, none⟩) hbC] at d0 d1 d2 d3 d4
      have Hc := Lib.hid (isNumF_any l[k] x g Q wr hgr hQ)
      clear hcs hv hno hQ hbS hgr
      generalize l[k] = f at d0 d1 d2 d3 d4 Hc
      obtain ⟨A1, A2, A3, A4, A5⟩ := f
      unfold fieldV at Hc
      simp only at d0 d1 d2 d3 d4 Hc
      go_wp2_with fail
      refine Hc.out.mono ?_
      rintro e w2 ⟨rfl, hb2⟩
      have hb3 := hbr.trans (hb2.mono hbr.size)
      clear hb2
      cases Q with
      | true =>
        have hR := Hyes.out rfl
        clear Hyes Hn
        go_wp2_with fail
        go_ret
        exact ⟨⟨k, .inl ⟨hR, by omega⟩, rfl⟩, hb3⟩
      | false =>
        have Hn' := Lib.hid (Hn.out rfl)
        clear Hyes Hn
        go_wp2_with fail
        go_roundw
        case rel => exact ⟨k + 1, by omega, by go_num, Hn', hb3⟩
        case measure => simp [intOf]; omega
    · have hge : (l.length : Int) ≤ (k : Int) := by omega
      have hend : decide (k < l.length) = false := decide_eq_false hlt
      have hR : R = false := by rw [← HR.out]; exact hasNum_no fun j hj => hno.out j hj (by omega)
      go_wp2_with fail
      go_ret
      exact ⟨⟨-1, .inr ⟨hR, rfl⟩, rfl⟩, hbr⟩
theorem containsNum_any (v : Value) (l : List RF) (x : Int) (g : Nat) (R : Bool) (w : World) (S : Nat → Prop) (hS : ∀ b, S b → b < w.heap.size) (hv : FieldsAt w S v l) (hl : l.length ≤ 1048576) (hg : Box w g [.int .i64 x]) (tell : hasNum l x = R) :
    Calls Tryd.prog 121 #[v, .func (.func 122) #[] #[.pointer (some ⟨g, 0, none⟩)]] w fun e w' => e = .returned (.bool R) ∧ Below w.heap.size w w' := by
  have H := Lib.hid (idxNum_any v l x g R w S hS hv hl hg tell)
  clear hS hv hg tell
  go_enter Tryd.func121, Tryd.ntmps121
  go_wp2_with fail
  refine H.out.mono ?_
  rintro e w1 ⟨⟨i, hi, rfl⟩, hb⟩
  rcases hi with ⟨rfl, hi⟩ | ⟨rfl, rfl⟩
  · go_wp2_with fail
    go_ret
    exact ⟨rfl, hb⟩
  · go_wp2_with fail
    go_ret
    exact ⟨rfl, hb⟩
/-- The program's hasNumber. -/
theorem iHasNum_any (v : Value) (l : List RF) (x : Int) (R : Bool) (w : World) (S : Nat → Prop) (hS : ∀ b, S b → b < w.heap.size) (hv : FieldsAt w S v l) (hl : l.length ≤ 1048576) (tell : hasNum l x = R) :
    Calls Tryd.prog 106 #[v, .int .i64 x] w fun e w' => e = .returned (.bool R) ∧ Below w.heap.size w w' := by
  have hb : Below w.heap.size w (w.alloc (.cells #[.int .i64 x] 3)) := (Below.refl _ _).alloc (Nat.le_refl _) _
  have H := Lib.hid (containsNum_any v l x w.heap.size R (w.alloc (.cells #[.int .i64 x] 3)) S (fun b h => Nat.lt_of_lt_of_le (hS b h) hb.size) (hv.keep (.of_below hb hS) fun _ h => h) hl (Box.fresh _ _ _) tell)
  clear hS hv tell
  go_enter Tryd.func106, Tryd.ntmps106
  go_wp2_with fail
  refine H.out.mono ?_
  rintro e w1 ⟨rfl, hb1⟩
  have hb2 := hb.trans (hb1.mono hb.size)
  clear hb hb1
  go_wp2_with fail
  go_ret
  exact ⟨rfl, hb2⟩
end Go.Proofs.YtcbohfncckpolaaDoor.Num
