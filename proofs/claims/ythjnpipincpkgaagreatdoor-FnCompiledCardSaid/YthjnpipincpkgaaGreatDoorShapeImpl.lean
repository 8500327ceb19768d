/-
  The walks of the program's ShapeAt, FieldAt and Runs, the first two over slices.IndexFunc with a closure: they answer as the plain definitions; only new memory is written.
-/
import Derived.Test.YthjnpipincpkgaaGreatDoorShape
import Derived.Test.YthjnpipincpkgaaGreatDoorSmallI
namespace Go.Proofs.YthjnpipincpkgaaGreatDoor.Num
open Go.RowKit Go.Proofs
set_option linter.unusedVariables false
set_option linter.unusedSimpArgs false

/-- Where the first field with the number lies. -/
def fieldIdx (l : List RF) (x : Int) : Int := match l.findIdx? (fun f => f.1 == x) with | some i => (i : Int) | none => -1
theorem fieldIdx_yes {l : List RF} {x : Int} {k : Nat} (hk : k < l.length) (h : l[k].1 = x) (hno : ∀ j (hj : j < l.length), j < k → l[j].1 ≠ x) : fieldIdx l x = (k : Int) := by
  unfold fieldIdx
  rw [List.findIdx?_eq_some_iff_getElem.2 ⟨hk, by simpa using h, fun j hj => by simpa using hno j (by omega) hj⟩]
theorem fieldIdx_no {l : List RF} {x : Int} (hno : ∀ j (hj : j < l.length), l[j].1 ≠ x) : fieldIdx l x = -1 := by
  unfold fieldIdx
  rw [List.findIdx?_eq_none_iff.2 (fun m hm => by obtain ⟨j, hj, rfl⟩ := List.getElem_of_mem hm; simpa using hno j hj)]
/-- The closure that ShapeAt hands over: whether the shape has the captured Id. -/
theorem isShF_any (x id : Int) (a : Option Addr) (n c : Nat) (g : Nat) (R : Bool) (w : World) (hg : Box w g [.int .i64 id]) (tell : (x == id) = R) :
    Calls Tryz.prog 41 #[.agg #[.int .i64 x, .slice a n c], .pointer (some ⟨g, 0, none⟩)] w fun e w' => e = .returned (.bool R) ∧ Below w.heap.size w w' := by
  have hz := hg.lt
  have hb : Below w.heap.size w (w.alloc (.cells #[.int .i64 x, .slice a n c] 43)) := (Below.refl _ _).alloc (Nat.le_refl _) _
  obtain ⟨c0, _⟩ := (hg.below hb hz).one
  go_enter Tryz.func41, Tryz.ntmps41
  go_wp2_with fail
  go_ret
  exact ⟨rfl, hb⟩
theorem isFdF_any (f : RF) (x : Int) (g : Nat) (R : Bool) (w : World) (hg : Box w g [.int .i64 x]) (tell : (f.1 == x) = R) :
    Calls Tryz.prog 44 #[fieldV f, .pointer (some ⟨g, 0, none⟩)] w fun e w' => e = .returned (.bool R) ∧ Below w.heap.size w w' := by
  obtain ⟨A1, A2, A3, A4, A5⟩ := f
  unfold fieldV
  simp only at tell ⊢
  have hz := hg.lt
  have hb : Below w.heap.size w (w.alloc (.cells #[.int .i64 A1, .int .i64 A2, .bool A3, .bool A4, .int .i64 A5] 47)) := (Below.refl _ _).alloc (Nat.le_refl _) _
  obtain ⟨c0, _⟩ := (hg.below hb hz).one
  go_enter Tryz.func44, Tryz.ntmps44
  go_wp2_with fail
  go_ret
  exact ⟨rfl, hb⟩
set_option maxHeartbeats 2000000 in
theorem idxSh_any (v : Value) (l : List RM) (x : Int) (g : Nat) (R : Int) (w : World) (S : Nat → Prop) (hS : ∀ b, S b → b < w.heap.size) (hv : MsgsAt w S v l) (hl : l.length ≤ 1048576) (hg : Box w g [.int .i64 x]) (tell : shapeAtR l x = R) :
    Calls Tryz.prog 40 #[v, .func (.func 41) #[] #[.pointer (some ⟨g, 0, none⟩)]] w fun e w' => e = .returned (.int .i64 R) ∧ Below w.heap.size w w' := by
  have HR := Lib.hid tell
  have HG := Lib.hid hg
  have HS := Lib.hid hS
  clear tell hg hS
  obtain ⟨a, cap, rfl⟩ := hv.len
  have H := Lib.hid hv
  clear hv
  go_enter Tryz.func40, Tryz.ntmps40
  go_wp2_with fail
  go_loopw [8] (fun i wr => ∃ k : Nat, k ≤ l.length ∧ i = .int .i64 k ∧ Hid (∀ j (hj : j < l.length), j < k → l[j].1 ≠ x) ∧ Below w.heap.size w wr) (fun i _ => l.length - (intOf i).toNat)
  case atStart => exact ⟨0, by omega, rfl, Lib.hid fun j _ hj => by omega, Below.refl _ _⟩
  case round =>
    obtain ⟨k, hk, rfl, hno, hbr⟩ := hrel
    by_cases hlt : k < l.length
    · have hlti : (k : Int) < (l.length : Int) := by omega
      obtain ⟨b, o, c, hv, hbS, hcs⟩ := H.out.cells (by omega)
      obtain ⟨rfl, rfl⟩ : a = some ⟨b, o, none⟩ ∧ cap = c := by injection hv with e1 e2 e3; exact ⟨e1, e3⟩
      have hbC := HS.out _ hbS
      have hbw : b < wr.heap.size := Nat.lt_of_lt_of_le hbC hbr.size
      have hgr := HG.out.below hbr HG.out.lt
      obtain ⟨Q, hQ⟩ : ∃ Q, (l[k].1 == x) = Q := ⟨_, rfl⟩
      have Hyes : Hid (Q = true → R = (k : Int)) := Lib.hid fun h => by
        have e : l[k].1 = x := by rw [h] at hQ; exact beq_iff_eq.1 hQ
        rw [← HR.out]; exact shapeAt_yes hlt e hno.out
      have Hn : Hid (Q = false → ∀ j (hj : j < l.length), j < k + 1 → l[j].1 ≠ x) := Lib.hid fun h j hj hjk => by
        by_cases e : j = k
        · subst e; rw [h] at hQ; exact beq_eq_false_iff_ne.1 hQ
        · exact hno.out j hj (by omega)
      obtain ⟨u, d0, d1, hx⟩ := hcs k hlt
      obtain ⟨xa, xc, rfl⟩ := hx.len
      rw [← hbr.cell (p := ⟨b, _, none⟩) hbC] at d0 d1
      have Hc := Lib.hid (isShF_any l[k].1 x xa l[k].2.length xc g Q wr hgr hQ)
      clear hcs hv hx hno hQ hbS hgr
      generalize l[k] = m at d0 d1 Hc
      obtain ⟨y, fs⟩ := m
      simp only at d0 d1 Hc
      go_wp2_with fail
      refine Hc.out.mono ?_
      rintro e w2 ⟨rfl, hb2⟩
      have hb3 := hbr.trans (hb2.mono hbr.size)
      clear hb2
      cases Q with
      | true =>
        have hR := Lib.hid (Hyes.out rfl)
        clear Hyes Hn
        go_wp2_with fail
        go_ret
        exact ⟨by rw [hR.out]; rfl, hb3⟩
      | false =>
        have Hn' := Lib.hid (Hn.out rfl)
        clear Hyes Hn
        go_wp2_with fail
        go_roundw
        case rel => exact ⟨k + 1, by omega, by go_num, Hn', hb3⟩
        case measure => simp [intOf]; omega
    · have hge : (l.length : Int) ≤ (k : Int) := by omega
      have hend : decide (k < l.length) = false := decide_eq_false hlt
      have hR : Hid (R = -1) := Lib.hid (by rw [← HR.out]; exact shapeAt_no fun j hj => hno.out j hj (by omega))
      go_wp2_with fail
      go_ret
      exact ⟨by rw [hR.out]; rfl, hbr⟩
set_option maxHeartbeats 2000000 in
theorem idxFd_any (v : Value) (l : List RF) (x : Int) (g : Nat) (R : Int) (w : World) (S : Nat → Prop) (hS : ∀ b, S b → b < w.heap.size) (hv : FieldsAt w S v l) (hl : l.length ≤ 1048576) (hg : Box w g [.int .i64 x]) (tell : fieldIdx l x = R) :
    Calls Tryz.prog 43 #[v, .func (.func 44) #[] #[.pointer (some ⟨g, 0, none⟩)]] w fun e w' => e = .returned (.int .i64 R) ∧ Below w.heap.size w w' := by
  have HR := Lib.hid tell
  have HG := Lib.hid hg
  have HS := Lib.hid hS
  clear tell hg hS
  obtain ⟨a, cap, rfl⟩ := hv.len
  have H := Lib.hid hv
  clear hv
  go_enter Tryz.func43, Tryz.ntmps43
  go_wp2_with fail
  go_loopw [8] (fun i wr => ∃ k : Nat, k ≤ l.length ∧ i = .int .i64 k ∧ Hid (∀ j (hj : j < l.length), j < k → l[j].1 ≠ x) ∧ Below w.heap.size w wr) (fun i _ => l.length - (intOf i).toNat)
  case atStart => exact ⟨0, by omega, rfl, Lib.hid fun j _ hj => by omega, Below.refl _ _⟩
  case round =>
    obtain ⟨k, hk, rfl, hno, hbr⟩ := hrel
    by_cases hlt : k < l.length
    · have hlti : (k : Int) < (l.length : Int) := by omega
      obtain ⟨b, o, c, hv, hbS, hcs⟩ := H.out.cells (by omega)
      obtain ⟨rfl, rfl⟩ : a = some ⟨b, o, none⟩ ∧ cap = c := by injection hv with e1 e2 e3; exact ⟨e1, e3⟩
      have hbC := HS.out _ hbS
      have hbw : b < wr.heap.size := Nat.lt_of_lt_of_le hbC hbr.size
      have hgr := HG.out.below hbr HG.out.lt
      obtain ⟨Q, hQ⟩ : ∃ Q, (l[k].1 == x) = Q := ⟨_, rfl⟩
      have Hyes : Hid (Q = true → R = (k : Int)) := Lib.hid fun h => by
        have e : l[k].1 = x := by rw [h] at hQ; exact beq_iff_eq.1 hQ
        rw [← HR.out]; exact fieldIdx_yes hlt e hno.out
      have Hn : Hid (Q = false → ∀ j (hj : j < l.length), j < k + 1 → l[j].1 ≠ x) := Lib.hid fun h j hj hjk => by
        by_cases e : j = k
        · subst e; rw [h] at hQ; exact beq_eq_false_iff_ne.1 hQ
        · exact hno.out j hj (by omega)
      obtain ⟨d0, d1, d2, d3, d4⟩ := hcs k hlt
      rw [← hbr.cell (p := ⟨b, _, none⟩) hbC] at d0 d1 d2 d3 d4
      have Hc := Lib.hid (isFdF_any l[k] x g Q wr hgr hQ)
      clear hcs hv hno hQ hbS hgr
      generalize l[k] = f at d0 d1 d2 d3 d4 Hc
      obtain ⟨A1, A2, A3, A4, A5⟩ := f
      unfold fieldV at Hc
      simp only at d0 d1 d2 d3 d4 Hc
      go_wp2_with fail
      refine Hc.out.mono ?_
      rintro e w2 ⟨rfl, hb2⟩
      have hb3 := hbr.trans (hb2.mono hbr.size)
      clear hb2
      cases Q with
      | true =>
        have hR := Lib.hid (Hyes.out rfl)
        clear Hyes Hn
        go_wp2_with fail
        go_ret
        exact ⟨by rw [hR.out]; rfl, hb3⟩
      | false =>
        have Hn' := Lib.hid (Hn.out rfl)
        clear Hyes Hn
        go_wp2_with fail
        go_roundw
        case rel => exact ⟨k + 1, by omega, by go_num, Hn', hb3⟩
        case measure => simp [intOf]; omega
    · have hge : (l.length : Int) ≤ (k : Int) := by omega
      have hend : decide (k < l.length) = false := decide_eq_false hlt
      have hR : Hid (R = -1) := Lib.hid (by rw [← HR.out]; exact fieldIdx_no fun j hj => hno.out j hj (by omega))
      go_wp2_with fail
      go_ret
      exact ⟨by rw [hR.out]; rfl, hbr⟩
theorem Box.freshB {w : World} {xs ys : Array Value} {t u : TypeId} : Box ((w.alloc (.cells xs t)).alloc (.cells ys u)) (w.heap.size + 1) ys.toList := by
  have h := Box.fresh (w.alloc (.cells xs t)) ys u
  rwa [show (w.alloc (.cells xs t)).heap.size = w.heap.size + 1 by simp] at h
/-- The program's ShapeAt. -/
theorem implShapeAt_in (v : Value) (r : List RM) (id : Int) (w : World) (S : Nat → Prop) (hS : ∀ b, S b → b < w.heap.size) (h : RawAt w S v r) (hr : r.length ≤ 1048576) :
    Calls Tryz.prog 12 #[v, .int .i64 id] w fun e w' => e = .returned (.int .i64 (shapeAtR r id)) ∧ Below w.heap.size w w' := by
  obtain ⟨u, rfl, hu⟩ := h
  obtain ⟨a, cap, rfl⟩ := hu.len
  have hb : Below w.heap.size w ((w.alloc (.cells #[.slice a r.length cap] 30)).alloc (.cells #[.int .i64 id] 3)) := ((Below.refl _ _).alloc (Nat.le_refl _) _).alloc (by simp) _
  have H := Lib.hid (idxSh_any (.slice a r.length cap) r id (w.heap.size + 1) (shapeAtR r id) ((w.alloc (.cells #[.slice a r.length cap] 30)).alloc (.cells #[.int .i64 id] 3)) S (fun b h => Nat.lt_of_lt_of_le (hS b h) hb.size) (hu.keep (.of_below hb hS) fun _ h => h) hr Box.freshB rfl)
  clear hu hS
  generalize shapeAtR r id = R at H ⊢
  go_enter Tryz.func12, Tryz.ntmps12
  go_wp2_with fail
  refine H.out.mono ?_
  rintro e w1 ⟨rfl, hb1⟩
  have hb2 := hb.trans (hb1.mono hb.size)
  clear hb hb1
  go_wp2_with fail
  go_ret
  exact ⟨rfl, hb2⟩
theorem implShapeAt_any (v : Value) (r : List RM) (id : Int) (w : World) (h : RawAt w (· < w.heap.size) v r) (hr : Small r) :
    Calls Tryz.prog 12 #[v, .int .i64 id] w fun e w' => e = .returned (.int .i64 (shapeAtR r id)) ∧ Below w.heap.size w w' :=
  implShapeAt_in v r id w _ (fun _ h => h) h hr.1
/-- The program's Runs. -/
theorem implRuns_any (f : RF) (w : World) : Calls Tryz.prog 97 #[fieldV f] w fun e w' => e = .returned (.bool (runsB f)) ∧ Below w.heap.size w w' := by
  obtain ⟨A1, A2, A3, A4, A5⟩ := f
  unfold fieldV runsB
  simp only
  have hl : Below w.heap.size w (w.alloc (.cells #[.int .i64 A1, .int .i64 A2, .bool A3, .bool A4, .int .i64 A5] 47)) := (Below.refl _ _).alloc (Nat.le_refl _) _
  cases A3
  · go_enter Tryz.func97, Tryz.ntmps97
    go_wp2_with fail
    go_ret
    exact ⟨rfl, hl⟩
  · obtain ⟨q, hq⟩ : ∃ q, numericB A2 = q := ⟨_, rfl⟩
    go_enter Tryz.func97, Tryz.ntmps97
    go_wp2_with fail
    refine (iNumeric_any A2 _).mono ?_
    rw [hq]
    rintro e w1 ⟨rfl, rfl⟩
    go_wp2_with fail
    go_ret
    exact ⟨by rw [hq]; rfl, hl⟩
theorem fieldIn_idx (l : List RF) (x : Int) : (fieldIdx l x = -1 ∧ fieldIn l x = (zeroF, false)) ∨ ∃ (k : Nat) (h : k < l.length), fieldIdx l x = (k : Int) ∧ fieldIn l x = (l[k], true) := by
  by_cases h : ∃ k : Nat, ∃ hk : k < l.length, l[k].1 = x ∧ ∀ j (hj : j < l.length), j < k → l[j].1 ≠ x
  · obtain ⟨k, hk, h1, h2⟩ := h
    exact .inr ⟨k, hk, fieldIdx_yes hk h1 h2, fieldIn_yes hk h1 h2⟩
  · have hno : ∀ k (hk : k < l.length), l[k].1 ≠ x := by
      intro k
      induction k using Nat.strongRecOn with
      | ind k ih =>
        intro hk e
        exact h ⟨k, hk, e, fun j hj hjk => ih j hjk hj⟩
    exact .inl ⟨fieldIdx_no hno, fieldIn_no hno⟩
set_option maxHeartbeats 600000 in
/-- The program's FieldAt. -/
theorem implFieldAt_any (v : Value) (r : List RM) (shape x : Int) (w : World) (h : RawAt w (· < w.heap.size) v r) (hr : Small r) :
    Calls Tryz.prog 14 #[v, .int .i64 shape, .int .i64 x] w fun e w' => e = .returned (.tuple #[fieldV (fieldAtR r shape x).1, .bool (fieldAtR r shape x).2]) ∧ Below w.heap.size w w' := by
  have hr1 := hr.1
  have Hr := Lib.hid hr.2
  clear hr
  obtain ⟨u, rfl, hu⟩ := h
  obtain ⟨a, cap, rfl⟩ := hu.len
  have H := Lib.hid hu
  clear hu
  have hl3 : Below w.heap.size w (((w.alloc (.cells #[.slice a r.length cap] 30)).alloc (.cells #[.int .i64 x] 3)).alloc (.cells #[.int .i64 0, .int .i64 0, .bool false, .bool false, .int .i64 0] 47)) := (((Below.refl _ _).alloc (Nat.le_refl _) _).alloc (by simp) _).alloc (by simp; omega) _
  have hs3 : Box (((w.alloc (.cells #[.slice a r.length cap] 30)).alloc (.cells #[.int .i64 x] 3)).alloc (.cells #[.int .i64 0, .int .i64 0, .bool false, .bool false, .int .i64 0] 47)) w.heap.size [.slice a r.length cap] := ((Box.fresh _ _ _).alloc _).alloc _
  have hx3 : Box (((w.alloc (.cells #[.slice a r.length cap] 30)).alloc (.cells #[.int .i64 x] 3)).alloc (.cells #[.int .i64 0, .int .i64 0, .bool false, .bool false, .int .i64 0] 47)) (w.heap.size + 1) [.int .i64 x] := Box.freshB.alloc _
  have hz3 : Box (((w.alloc (.cells #[.slice a r.length cap] 30)).alloc (.cells #[.int .i64 x] 3)).alloc (.cells #[.int .i64 0, .int .i64 0, .bool false, .bool false, .int .i64 0] 47)) (w.heap.size + 1 + 1) (fieldC zeroF) := by
    have h := Box.fresh ((w.alloc (.cells #[.slice a r.length cap] 30)).alloc (.cells #[.int .i64 x] 3)) #[.int .i64 0, .int .i64 0, .bool false, .bool false, .int .i64 0] 47
    rwa [show ((w.alloc (.cells #[.slice a r.length cap] 30)).alloc (.cells #[.int .i64 x] 3)).heap.size = w.heap.size + 1 + 1 by simp] at h
  by_cases hin : 0 ≤ shape ∧ shape < (r.length : Int)
  · obtain ⟨k, rfl⟩ := Int.eq_ofNat_of_zero_le hin.1
    have hk : k < r.length := by omega
    have hki : (k : Int) < (r.length : Int) := by omega
    have Hin := Lib.hid hin
    have He := Lib.hid (fieldAt_in (x := x) hk)
    rw [He.out]
    obtain ⟨b, o, c, hv, hbC, hcs⟩ := H.out.cells (by omega)
    obtain ⟨rfl, rfl⟩ : a = some ⟨b, o, none⟩ ∧ cap = c := by injection hv with e1 e2 e3; exact ⟨e1, e3⟩
    obtain ⟨y, d0, d1, hy⟩ := hcs k hk
    obtain ⟨xa, xc, rfl⟩ := hy.len
    have hfl := Hr.out _ (List.getElem_mem hk)
    have Hy := Lib.hid hy
    clear hcs hv hy hin He d0
    generalize r[k] = m at d1 hfl Hy
    obtain ⟨id, fs⟩ := m
    simp only at d1 hfl Hy
    have Hidx := Lib.hid (idxFd_any (.slice xa fs.length xc) fs x (w.heap.size + 1) (fieldIdx fs x) _ (· < w.heap.size) (fun b h => Nat.lt_of_lt_of_le h hl3.size) (Hy.out.keep (.of_below hl3 fun _ h => h) fun _ h => h) hfl hx3 rfl)
    have hbw : b < w.heap.size := hbC
    go_enter Tryz.func14, Tryz.ntmps14
    go_wp2_with fail
    refine (isIndex_yes _ _ _ Hin.out).mono ?_
    rintro e w1 ⟨rfl, rfl⟩
    generalize (((w.alloc (.cells #[.slice (some ⟨b, o, none⟩) r.length cap] 30)).alloc (.cells #[.int .i64 x] 3)).alloc (.cells #[.int .i64 0, .int .i64 0, .bool false, .bool false, .int .i64 0] 47)) = w3 at hl3 hs3 hx3 hz3 Hidx ⊢
    rw [← hl3.cell (p := ⟨b, _, none⟩) hbC] at d1
    obtain ⟨s0, _⟩ := hs3.one
    go_wp2_with fail
    refine Hidx.out.mono ?_
    rintro e w2 ⟨rfl, hb2⟩
    have hz4 := hz3.below hb2 hz3.1
    have hl4 := hl3.trans (hb2.mono hl3.size)
    obtain ⟨⟨f0, f1, f2, f3, f4⟩, g0, g1, g2, g3, g4⟩ := Box.five hz4
    have Hz4 := Lib.hid hz4
    clear hl3 hs3 hx3 hz3 hb2 hz4 d1
    rcases fieldIn_idx fs x with ⟨h1, h2⟩ | ⟨q, hq, h1, h2⟩
    · have H2 := Lib.hid h2
      rw [h1]
      clear h1 h2
      have hx6 := Hz4.out.set 0 (.int .i64 0) |>.set 1 (.int .i64 0) |>.set 2 (.bool false) |>.set 3 (.bool false) |>.set 4 (.int .i64 0)
      obtain ⟨⟨y0, y1, y2, y3, y4⟩, _⟩ := Box.five (a := .int .i64 0) (b := .int .i64 0) (c := .bool false) (d := .bool false) (e := .int .i64 0) hx6
      go_wp2_with fail
      refine bodyPost_ret (v := .tuple #[.agg #[.int .i64 0, .int .i64 0, .bool false, .bool false, .int .i64 0], .bool false]) (by simp [results, Tryz.results14, go_sem, y0, y1, y2, y3, y4]) rfl ?_
      refine ⟨by rw [H2.out]; rfl, ?_⟩
      repeat (first | exact hl4 | refine Below.setCell ?_ (by simp <;> omega) _)
    · have H2 := Lib.hid h2
      rw [h1]
      clear h1 h2
      have hqi : (q : Int) < (fs.length : Int) := by omega
      have hq0 : decide ((q : Int) < 0) = false := decide_eq_false (by omega)
      obtain ⟨fb, fo, fc, fv, fbC, fcs⟩ := Hy.out.cells (by omega)
      obtain ⟨rfl, rfl⟩ : xa = some ⟨fb, fo, none⟩ ∧ xc = fc := by injection fv with e1 e2 e3; exact ⟨e1, e3⟩
      obtain ⟨x0, x1, x2, x3, x4⟩ := fcs q hq
      clear fcs fv
      rw [← hl4.cell (p := ⟨fb, _, none⟩) fbC] at x0 x1 x2 x3 x4
      generalize fs[q] = g at x0 x1 x2 x3 x4 H2
      obtain ⟨A1, A2, A3, A4, A5⟩ := g
      simp only at x0 x1 x2 x3 x4
      have hx6 := Hz4.out.set 0 (.int .i64 A1) |>.set 1 (.int .i64 A2) |>.set 2 (.bool A3) |>.set 3 (.bool A4) |>.set 4 (.int .i64 A5)
      obtain ⟨⟨y0, y1, y2, y3, y4⟩, _⟩ := Box.five (a := .int .i64 A1) (b := .int .i64 A2) (c := .bool A3) (d := .bool A4) (e := .int .i64 A5) hx6
      have Y := Lib.hid y0
      have Y1 := Lib.hid y1
      have Y2 := Lib.hid y2
      have Y3 := Lib.hid y3
      have Y4 := Lib.hid y4
      clear y0 y1 y2 y3 y4 hx6 s0
      go_wp2_with fail
      have y0 := Y.out
      have y1 := Y1.out
      have y2 := Y2.out
      have y3 := Y3.out
      have y4 := Y4.out
      refine bodyPost_ret (v := .tuple #[.agg #[.int .i64 A1, .int .i64 A2, .bool A3, .bool A4, .int .i64 A5], .bool true]) (by simp [results, Tryz.results14, go_sem, y0, y1, y2, y3, y4]) rfl ?_
      refine ⟨by rw [H2.out]; rfl, ?_⟩
      repeat (first | exact hl4 | refine Below.setCell ?_ (by simp <;> omega) _)
  · rw [fieldAt_out (by omega)]
    have H1 := Lib.hid hin
    clear hin hs3 hx3 hz3 hl3
    go_enter Tryz.func14, Tryz.ntmps14
    go_wp2_with fail
    refine (isIndex_no _ _ _ H1.out).mono ?_
    rintro e w1 ⟨rfl, rfl⟩
    go_wp2_with fail
    refine bodyPost_ret (v := .tuple #[.agg #[.int .i64 0, .int .i64 0, .bool false, .bool false, .int .i64 0], .bool false]) (by simp [results, Tryz.results14, go_sem]) rfl ?_
    refine ⟨rfl, ?_⟩
    repeat (first | exact Below.refl _ _ | refine Below.setCell ?_ (by simp) _ | refine Below.alloc ?_ (by first | omega | (simp <;> omega)) _)
end Go.Proofs.YthjnpipincpkgaaGreatDoor.Num
