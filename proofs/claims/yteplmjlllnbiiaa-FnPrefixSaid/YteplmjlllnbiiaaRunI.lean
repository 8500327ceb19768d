/-
  The walks of slices.IndexFunc, Clone and DeleteFunc at events, of the program's firstRun; only new memory is written, or the row that DeleteFunc was given.
-/
import Derived.Test.YteplmjlllnbiiaaPartI
import Derived.Test.YteplmjlllnbiiaaShatterS
import Derived.Laws.IdiomCopy
import Derived.Lib.SliceRun
namespace Go.Proofs.Yteplmjlllnbiiaa.Num
open Go.RowKit Go.Proofs
set_option linter.unusedVariables false
set_option linter.unusedSimpArgs false
attribute [local go_sem] Region.wanted yielded

/-- i is the first place at which p holds, or -1. -/
def FirstAt (p : Ev → Bool) (l : List Ev) (i : Int) : Prop := (i = -1 ∧ ∀ j (hj : j < l.length), p l[j] = false) ∨ ∃ k, ∃ hk : k < l.length, i = (k : Int) ∧ p l[k] = true ∧ ∀ j (hj : j < k), p l[j] = false
def noPart (e : Ev) : Bool := !(e.kind == 4)
set_option maxHeartbeats 2000000 in
theorem idxNoPart_any (v : Value) (l : List Ev) (w : World) (h : EvsAt w (· < w.heap.size) v l) (hl : l.length ≤ 1048576) :
    Calls Try.prog 54 #[v, .func (.func 55) #[] #[]] w fun e w' => (∃ i : Int, FirstAt noPart l i ∧ e = .returned (.int .i64 i)) ∧ Below w.heap.size w w' := by
  obtain ⟨a, cap, rfl⟩ := h.len
  have H := Lib.hid h
  clear h
  go_enter Try.func54, Try.ntmps54
  go_wp2_with fail
  go_loopw [8] (fun i wr => ∃ k : Nat, k ≤ l.length ∧ i = .int .i64 k ∧ Hid (∀ j (hj : j < l.length), j < k → noPart l[j] = false) ∧ Below w.heap.size w wr) (fun i _ => l.length - (intOf i).toNat)
  case atStart => exact ⟨0, by omega, rfl, Lib.hid fun j _ hj => by omega, Below.refl _ _⟩
  case round =>
    obtain ⟨k, hk, rfl, hno, hbr⟩ := hrel
    by_cases hlt : k < l.length
    · have hlti : (k : Int) < (l.length : Int) := by omega
      obtain ⟨b, o, rfl, hbC, c0, c1, c2, c3, c4, c5, c6⟩ := H.out.cellsAt k hlt
      rw [← hbr.cell (p := ⟨b, _, none⟩) hbC] at c0 c1 c2 c3 c4 c5 c6
      obtain ⟨Q, hQ⟩ : ∃ Q, noPart l[k] = Q := ⟨_, rfl⟩
      have Hyes : Hid (Q = true → FirstAt noPart l k) := Lib.hid fun h => .inr ⟨k, hlt, rfl, by rw [hQ, h], fun j hj => hno.out j (by omega) hj⟩
      have Hn : Hid (Q = false → ∀ j (hj : j < l.length), j < k + 1 → noPart l[j] = false) := Lib.hid fun h j hj hjk => by
        by_cases e : j = k
        · subst e; rw [hQ, h]
        · exact hno.out j hj (by omega)
      have HC := Lib.hid (fun w => isNoPart_any l[k] (!Q) w (by have := hQ; unfold noPart at this; revert this; cases (l[k].kind == 4) <;> cases Q <;> simp))
      clear hno hQ hbC
      generalize l[k] = e at c0 c1 c2 c3 c4 c5 c6 HC
      obtain ⟨K, F, Bt, L, Tx, C, P⟩ := e
      simp only at c0 c1 c2 c3 c4 c5 c6
      go_wp2_with fail
      refine (HC.out _).mono ?_
      rintro e w2 ⟨rfl, hb2⟩
      have hb3 := hbr.trans (hb2.mono hbr.size)
      clear hb2
      cases Q with
      | true =>
        have hR := Lib.hid (Hyes.out rfl)
        clear Hyes Hn
        go_wp2_with fail
        go_ret
        exact ⟨⟨k, hR.out, rfl⟩, hb3⟩
      | false =>
        have Hn' := Lib.hid (Hn.out rfl)
        clear Hyes Hn
        go_wp2_with fail
        go_roundw
        case rel => exact ⟨k + 1, by omega, by go_num, Hn', hb3⟩
        case measure => simp [intOf]; omega
    · have hge : (l.length : Int) ≤ (k : Int) := by omega
      have hend : decide (k < l.length) = false := decide_eq_false hlt
      have hR := Lib.hid (show FirstAt noPart l (-1) from .inl ⟨rfl, fun j hj => hno.out j hj (by omega)⟩)
      go_wp2_with fail
      go_ret
      exact ⟨⟨-1, hR.out, rfl⟩, hbr⟩
set_option maxHeartbeats 2000000 in
theorem idxEmpty_any (v : Value) (l : List Ev) (w : World) (h : EvsAt w (· < w.heap.size) v l) (hl : l.length ≤ 1048576) :
    Calls Try.prog 54 #[v, .func (.func 37) #[] #[]] w fun e w' => (∃ i : Int, FirstAt emptyPart l i ∧ e = .returned (.int .i64 i)) ∧ Below w.heap.size w w' := by
  obtain ⟨a, cap, rfl⟩ := h.len
  have H := Lib.hid h
  clear h
  go_enter Try.func54, Try.ntmps54
  go_wp2_with fail
  go_loopw [8] (fun i wr => ∃ k : Nat, k ≤ l.length ∧ i = .int .i64 k ∧ Hid (∀ j (hj : j < l.length), j < k → emptyPart l[j] = false) ∧ Below w.heap.size w wr) (fun i _ => l.length - (intOf i).toNat)
  case atStart => exact ⟨0, by omega, rfl, Lib.hid fun j _ hj => by omega, Below.refl _ _⟩
  case round =>
    obtain ⟨k, hk, rfl, hno, hbr⟩ := hrel
    by_cases hlt : k < l.length
    · have hlti : (k : Int) < (l.length : Int) := by omega
      obtain ⟨b, o, rfl, hbC, c0, c1, c2, c3, c4, c5, c6⟩ := H.out.cellsAt k hlt
      rw [← hbr.cell (p := ⟨b, _, none⟩) hbC] at c0 c1 c2 c3 c4 c5 c6
      obtain ⟨Q, hQ⟩ : ∃ Q, emptyPart l[k] = Q := ⟨_, rfl⟩
      have Hyes : Hid (Q = true → FirstAt emptyPart l k) := Lib.hid fun h => .inr ⟨k, hlt, rfl, by rw [hQ, h], fun j hj => hno.out j (by omega) hj⟩
      have Hn : Hid (Q = false → ∀ j (hj : j < l.length), j < k + 1 → emptyPart l[j] = false) := Lib.hid fun h j hj hjk => by
        by_cases e : j = k
        · subst e; rw [hQ, h]
        · exact hno.out j hj (by omega)
      have HC := Lib.hid (fun w => isEmptyPart_any l[k] Q w hQ)
      clear hno hQ hbC
      generalize l[k] = e at c0 c1 c2 c3 c4 c5 c6 HC
      obtain ⟨K, F, Bt, L, Tx, C, P⟩ := e
      simp only at c0 c1 c2 c3 c4 c5 c6
      go_wp2_with fail
      refine (HC.out _).mono ?_
      rintro e w2 ⟨rfl, hb2⟩
      have hb3 := hbr.trans (hb2.mono hbr.size)
      clear hb2
      cases Q with
      | true =>
        have hR := Lib.hid (Hyes.out rfl)
        clear Hyes Hn
        go_wp2_with fail
        go_ret
        exact ⟨⟨k, hR.out, rfl⟩, hb3⟩
      | false =>
        have Hn' := Lib.hid (Hn.out rfl)
        clear Hyes Hn
        go_wp2_with fail
        go_roundw
        case rel => exact ⟨k + 1, by omega, by go_num, Hn', hb3⟩
        case measure => simp [intOf]; omega
    · have hge : (l.length : Int) ≤ (k : Int) := by omega
      have hend : decide (k < l.length) = false := decide_eq_false hlt
      have hR := Lib.hid (show FirstAt emptyPart l (-1) from .inl ⟨rfl, fun j hj => hno.out j hj (by omega)⟩)
      go_wp2_with fail
      go_ret
      exact ⟨⟨-1, hR.out, rfl⟩, hbr⟩
set_option maxHeartbeats 2000000 in
theorem clone_any (v : Value) (l : List Ev) (w : World) (h : EvsAt w (· < w.heap.size) v l) (hl : l.length ≤ 1048576) :
    Calls Try.prog 36 #[v] w fun e w' => (∃ a cap, e = .returned (.slice a l.length cap) ∧ OwnE w' w.heap.size 31 (.slice a l.length cap) l) ∧ Below w.heap.size w w' := by
  obtain ⟨i0, hi, hz0, hz1, hz2⟩ := info_parts info_event
  obtain ⟨a, cap, rfl⟩ := h.len
  have H := Lib.hid h
  clear h
  cases a with
  | none =>
    obtain rfl : l = [] := by
      cases l with
      | nil => rfl
      | cons x r => obtain ⟨b, o, e, _⟩ := H.out.cellsAt 0 (by simp); cases e
    have hnl : ∀ w, (binOp .eql 24 (.slice none 0 cap) (.slice none 0 0)).run Try.prog w = .ok (.bool true) w := fun w => Go.Lib.run_eql_slice_nil w 24 31 none 0 cap 0 0 Try.underlying24
    go_enter Try.func36, Try.ntmps36
    go_wp2_with fail
    go_ret
    exact ⟨⟨none, 0, rfl, OwnE.nil _ _ _⟩, Below.refl _ _⟩
  | some ad =>
    have HO0 := Lib.hid (OwnE.start w w.heap.size 31 (Nat.le_refl _))
    have hb0 : Below w.heap.size w (w.alloc (.cells #[] 31)) := (Below.refl _ _).alloc (Nat.le_refl _) _
    have hz0' : w.heap.size < (w.alloc (.cells #[] 31)).heap.size := by simp
    have H1 := Lib.hid (H.out.below hb0 fun _ h => h)
    have hnl : ∀ w, (binOp .eql 24 (.slice (some ad) l.length cap) (.slice none 0 0)).run Try.prog w = .ok (.bool false) w := fun w => Go.Lib.run_eql_slice_nil w 24 31 (some ad) l.length cap 0 0 Try.underlying24
    go_enter Try.func36, Try.ntmps36
    go_wp2_with (at_builtin; refine wpList_append_onto _ (by rfl) (.tmp 5) (.tmp 6) 24 (by rfl) w.heap.size 31 i0 _ 7 64 Try.underlying24 hi hz0 hz1 hz2 (by rfl) (by omega) w.heap.size 0 0 _ (by rfl) HO0.out (some ad) l.length cap (by rfl) (fun e => by cases e) (l.flatMap evC) (evs_len l) (EvsAt.news H1.out) evC_one (by unfold maxLen; omega) (by omega) (by omega) _ rfl ?_; intro g2 cap2 w2 hown2 hg2 hor2 hlt2)
    have hb2 := hb0.grown hg2 (by omega) (fun q hq => by cases hq; omega)
    have HO2 : Hid (OwnE w2 w.heap.size 31 (.slice (some ⟨g2, 0, none⟩) l.length cap2) l) := Lib.hid (by
      unfold OwnE
      have h := hown2
      simp only [Nat.zero_add, List.flatMap_nil, List.nil_append] at h
      exact h)
    clear hown2 hg2 hor2
    go_wp2_with fail
    go_ret
    exact ⟨⟨_, cap2, rfl, by simpa using HO2.out⟩, hb2⟩
/-- 'clear(s)' of a slice of n > 0 elements of several cells each: nothing but their cells is written. -/
theorem run_clear_rows {P : Program} (w : World) (t e ty : TypeId) (zv : Value) (sz : Nat) (ht : P.underlying t = some (.slice e)) (hv : ∀ w, (zeroValue e).run P w = .ok zv w) (hsz : zv.cells.size = sz) (h1 : ∀ v ∈ zv.cells, v.oneCell' = true) (b o n c : Nat) (hn : 0 < n)
    (hc : ∀ j, j < n * sz → (w.cell? ⟨b, o + j, none⟩).isSome = true) (hf : ∀ j, j < n * sz → w.frozen? ⟨b, o + j, none⟩ = false) :
    ∃ Z : List Value, Z.length = n * sz ∧ (Builtin.clear_ #[t] ty #[.slice (some ⟨b, o, none⟩) n c]).run P w = .ok (.tuple #[]) (w.setCells b o Z) := by
  have hl : (Builtin.zeroCells zv.cells n).toList.length = n * sz := by simp [Builtin.zeroCells, hsz]
  have hone : ∀ v ∈ (Builtin.zeroCells zv.cells n).toList, v.oneCell' = true := by
    intro v hv'
    simp only [Builtin.zeroCells, Array.toList_map, List.mem_map, Array.mem_toList_iff, Array.mem_range] at hv'
    obtain ⟨i, hi, rfl⟩ := hv'
    have h0 : 0 < zv.cells.size := by rcases Nat.eq_zero_or_pos zv.cells.size with h | h; · rw [h] at hi; omega
                                      · exact h
    rw [getElem!_pos zv.cells (i % zv.cells.size) (Nat.mod_lt _ h0)]
    exact h1 _ (Array.getElem_mem _)
  have hst := run_storeCells_cells (P := P) b o (Builtin.zeroCells zv.cells n).toList 0 w (by rw [hl]; simpa using hc) (by rw [hl]; simpa using hf) hone
  simp only [Nat.add_zero] at hst
  refine ⟨_, hl, ?_⟩
  obtain ⟨m, rfl⟩ : ∃ m, n = m + 1 := ⟨n - 1, by omega⟩
  simp [Builtin.clear_, run_underlying ht, hv, hst]
theorem below_put {C : Nat} {w0 : World} (g : Nat) (hg : C ≤ g) : ∀ (vs : List Value) (o : Nat) (w : World), Below C w0 w → Below C w0 (w.setCells g o vs)
  | [], _, _, h => h
  | _ :: r, o, _, h => below_put g hg r (o + 1) _ (h.setCell hg _)
theorem filter_keep {p : Ev → Bool} {l : List Ev} {k : Nat} (hk : k ≤ l.length) (h : ∀ j (hj : j < k), p (l[j]'(by omega)) = false) : (l.take k).filter (fun e => !p e) = l.take k := by
  refine List.filter_eq_self.2 fun x hx => ?_
  obtain ⟨j, hj, rfl⟩ := List.getElem_of_mem hx
  rw [List.length_take] at hj
  rw [List.getElem_take, h j (by omega)]; rfl
theorem filter_next {p : Ev → Bool} {l : List Ev} {j : Nat} (hj : j < l.length) : (l.take (j + 1)).filter (fun e => !p e) = (l.take j).filter (fun e => !p e) ++ (if p l[j] = true then [] else [l[j]]) := by
  rw [List.take_succ_eq_append_getElem hj, List.filter_append]
  congr 1
  cases h : p l[j] <;> simp [h]
/-- A row of n events that is being sifted: ahead, what is kept of the first j; from j on, what was there. -/
structure Sift (w : World) (g n i j : Nat) (p : Ev → Bool) (l : List Ev) : Prop where
  fill : Fill w g (n * 7)
  len : l.length = n
  le : i < j ∧ j ≤ n
  kept : ((l.take j).filter fun e => !p e).length = i
  lo : ∀ t (h : t < ((l.take j).filter fun e => !p e).length), cells7 w g (t * 7) ((l.take j).filter fun e => !p e)[t]
  hi : ∀ t (h : t < l.length), j ≤ t → cells7 w g (t * 7) l[t]
section
variable {w w' : World} {g n i j : Nat} {p : Ev → Bool} {l : List Ev}
theorem Sift.start {k : Nat} (hf : Fill w g (n * 7)) (hn : l.length = n) (hc : ∀ t (h : t < l.length), cells7 w g (t * 7) l[t]) (hk : k < l.length) (hp : p l[k] = true) (hno : ∀ j (hj : j < k), p (l[j]'(by omega)) = false) : Sift w g n k (k + 1) p l := by
  have he : (l.take (k + 1)).filter (fun e => !p e) = l.take k := by rw [filter_next hk, filter_keep (by omega) hno, hp]; simp
  refine ⟨hf, hn, by omega, by rw [he, List.length_take]; omega, fun t h => ?_, fun t h _ => hc t h⟩
  simp only [he] at h ⊢
  rw [List.length_take] at h
  rw [List.getElem_take]
  exact hc t (by omega)
theorem Sift.below {D : Nat} (h : Sift w g n i j p l) (hb : Below D w w') (hg : g < D) : Sift w' g n i j p l :=
  ⟨h.fill.below hb hg, h.len, h.le, h.kept, fun t ht => (h.lo t ht).below hb hg, fun t ht hj => (h.hi t ht hj).below hb hg⟩
theorem Sift.skip (h : Sift w g n i j p l) (hj : j < l.length) (hp : p l[j] = true) : Sift w g n i (j + 1) p l := by
  have he : (l.take (j + 1)).filter (fun e => !p e) = (l.take j).filter (fun e => !p e) := by rw [filter_next hj, if_pos hp, List.append_nil]
  refine ⟨h.fill, h.len, ⟨by have := h.le; omega, by have := h.len; omega⟩, by rw [he]; exact h.kept, fun t ht => ?_, fun t ht hjt => h.hi t ht (by omega)⟩
  simp only [he] at ht ⊢
  exact h.lo t ht
theorem Sift.keep (h : Sift w g n i j p l) (hj : j < l.length) (hp : p l[j] = false) : Sift (putEv w g (i * 7) l[j]) g n (i + 1) (j + 1) p l := by
  have he : (l.take (j + 1)).filter (fun e => !p e) = (l.take j).filter (fun e => !p e) ++ [l[j]] := by rw [filter_next hj, if_neg (by rw [hp]; simp)]
  have hle := h.le
  have hlen := h.len
  refine ⟨h.fill.putEv _ _, h.len, by omega, by rw [he, List.length_append, h.kept]; rfl, fun t ht => ?_, fun t ht hjt => (h.hi t ht (by omega)).putOff _ (by omega)⟩
  simp only [he] at ht ⊢
  have hk := h.kept
  by_cases e : t < ((l.take j).filter fun e => !p e).length
  · rw [List.getElem_append_left e]
    exact (h.lo t e).putOff _ (by omega)
  · have ht2 : t = i := by simp at ht; omega
    subst ht2
    rw [List.getElem_append_right (by omega)]
    simp only [hk, Nat.sub_self, List.getElem_cons_zero]
    exact putEv_cells h.fill _ (by omega)
theorem Sift.done {S : Nat → Prop} {cap : Nat} (h : Sift w g n i n p l) (Z : List Value) (hS : S g) (hcap : n ≤ cap) : EvsAt (w.setCells g (i * 7) Z) S (.slice (some ⟨g, 0, none⟩) i cap) (l.filter fun e => !p e) := by
  have he : l.take n = l := by rw [← h.len]; exact List.take_length
  have hk := h.kept
  have hle := h.le
  have hlo := h.lo
  simp only [he] at hk hlo
  have hq := evsAt_of (w := w.setCells g (i * 7) Z) (g := g) (o := 0) (cap := cap) (S := S) (l := l.filter fun e => !p e) (fun t ht => by
    have hc := hlo t ht
    rw [Nat.zero_add]
    unfold cells7 at hc ⊢
    have ho : ∀ q, q < i * 7 → (w.setCells g (i * 7) Z).cell? ⟨g, q, none⟩ = w.cell? ⟨g, q, none⟩ := fun q hq => World.cell?_setCells_out g Z (i * 7) w ⟨g, q, none⟩ (fun _ _ => .inl hq)
    rw [ho _ (by omega), ho _ (by omega), ho _ (by omega), ho _ (by omega), ho _ (by omega), ho _ (by omega), ho _ (by omega)]
    exact hc) hS (by omega)
  rw [hk] at hq
  exact hq
end
set_option maxHeartbeats 4000000 in
set_option maxRecDepth 100000 in
theorem deleteEmpty_any (v : Value) (l : List Ev) (w : World) (B : Nat) (h : OwnE w B 31 v l) (hB : B ≤ w.heap.size) (hl : l.length ≤ 1048576) :
    Calls Try.prog 35 #[v, .func (.func 37) #[] #[]] w fun e w' => (∃ u, e = .returned u ∧ EvsAt w' (fun b => B ≤ b ∧ b < w'.heap.size) u (l.filter fun e => !emptyPart e)) ∧ Below B w w' := by
  have HI := Lib.hid (idxEmpty_any v l w h.evsAll hl)
  have H := Lib.hid h
  have Hform := Lib.hid h.form
  obtain ⟨a, cap, rfl⟩ := h.slice
  clear h
  go_enter Try.func35, Try.ntmps35
  go_wp2_with fail
  refine HI.out.mono ?_
  rintro e w1 ⟨⟨i, hi, rfl⟩, hb1⟩
  have hz1 := hb1.size
  rcases hi with ⟨rfl, hno⟩ | ⟨k, hk, rfl, hp, hno⟩
  · have hf : l.filter (fun e => !emptyPart e) = l := List.filter_eq_self.2 fun x hx => by obtain ⟨j, hj, rfl⟩ := List.getElem_of_mem hx; rw [hno j hj]; rfl
    have Hf := Lib.hid hf
    have hE := Lib.hid ((H.out.below hb1 (Nat.le_refl _)).evsAt)
    have hbB := hb1.mono hB
    clear hf hno hb1
    go_wp2_with fail
    go_ret
    exact ⟨⟨_, rfl, by rw [Hf.out]; exact hE.out⟩, hbB⟩
  · have hbB := hb1.mono hB
    obtain ⟨g, c2, hv, hg, hg2, hfill⟩ : ∃ g c2, Value.slice a l.length cap = .slice (some ⟨g, 0, none⟩) l.length c2 ∧ B ≤ g ∧ g < w.heap.size ∧ Fill w g (l.length * 7) := by
      rcases Hform.out with ⟨_, h⟩ | h
      · rw [h] at hk; simp at hk
      · exact h
    obtain ⟨rfl, rfl⟩ : a = some ⟨g, 0, none⟩ ∧ cap = c2 := by injection hv with e1 e2 e3; exact ⟨e1, e3⟩
    have hS0 := Lib.hid ((Sift.start (p := emptyPart) hfill rfl (fun t ht => H.out.cellsAt t ht) hk hp hno).below hb1 hg2)
    have hcap : l.length ≤ cap := RowAt.cap H.out.evsAll
    have hg1 : g < w1.heap.size := Nat.lt_of_lt_of_le hg2 hz1
    obtain ⟨N, hN⟩ : ∃ N, l.length = N := ⟨_, rfl⟩
    rw [hN] at hS0 hl hk hcap ⊢
    have HN := Lib.hid hN
    clear hv hfill hp hno hb1 hN
    have hkne : ((k : Int) == -1) = false := neI (by omega)
    go_wp2_with fail
    go_loopw [5, 6] (fun s5 s6 wr => ∃ i j : Nat, s5 = .int .i64 i ∧ s6 = .int .i64 j ∧ i < j ∧ j ≤ N ∧ Hid (Sift wr g N i j emptyPart l) ∧ Below B w wr ∧ w1.heap.size ≤ wr.heap.size) (fun _ s6 _ => N - (intOf s6).toNat)
    case atStart => exact ⟨k, k + 1, rfl, by go_num, by omega, by omega, hS0, hbB, Nat.le_refl _⟩
    case round =>
      clear hS0 hbB
      obtain ⟨i, j, rfl, rfl, hij, hjN, hS, hbr, hzr⟩ := hrel
      have hgr : g < wr.heap.size := Nat.lt_of_lt_of_le hg1 hzr
      by_cases hlt : j < N
      · have hlti : (j : Int) < (N : Int) := by omega
        have hjl : j < l.length := by rw [HN.out]; exact hlt
        obtain ⟨c0, c1, c2, c3, c4, c5, c6⟩ := hS.out.hi j hjl (Nat.le_refl _)
        have hBr : B ≤ wr.heap.size := by omega
        obtain ⟨Q, hQ⟩ : ∃ Q, emptyPart l[j] = Q := ⟨_, rfl⟩
        have HC := Lib.hid (fun w => isEmptyPart_any l[j] Q w hQ)
        have Hskip : Hid (∀ w', Sift w' g N i j emptyPart l → Q = true → Sift w' g N i (j + 1) emptyPart l) := Lib.hid fun w' h hq => h.skip hjl (by rw [hQ, hq])
        have Hkeep : Hid (∀ w', Sift w' g N i j emptyPart l → Q = false → Sift (putEv w' g (i * 7) l[j]) g N (i + 1) (j + 1) emptyPart l) := Lib.hid fun w' h hq => h.keep hjl (by rw [hQ, hq])
        clear hQ
        generalize l[j] = e at c0 c1 c2 c3 c4 c5 c6 HC Hkeep
        obtain ⟨K, F, Bt, L, Tx, C, P⟩ := e
        simp only at c0 c1 c2 c3 c4 c5 c6
        have hx := Box.fresh wr #[.int .i64 K, .int .i64 F, .int .u64 Bt, .int .i64 L, .string Tx, .int .i64 C, .int .i64 P] 31
        have hbx : Below B w (wr.alloc (.cells #[.int .i64 K, .int .i64 F, .int .u64 Bt, .int .i64 L, .string Tx, .int .i64 C, .int .i64 P] 31)) := hbr.alloc hBr _
        have hSx := Lib.hid (hS.out.below ((Below.refl wr.heap.size wr).alloc (Nat.le_refl _) (.cells #[.int .i64 K, .int .i64 F, .int .u64 Bt, .int .i64 L, .string Tx, .int .i64 C, .int .i64 P] 31)) hgr)
        have hzx : wr.heap.size < (wr.alloc (.cells #[.int .i64 K, .int .i64 F, .int .u64 Bt, .int .i64 L, .string Tx, .int .i64 C, .int .i64 P] 31)).heap.size := by simp
        go_wp2_with fail
        refine (HC.out _).mono ?_
        rintro e w2 ⟨rfl, hb2⟩
        have hx2 := hx.below hb2 hx.lt
        have hb3 := hbx.trans (hb2.mono (Nat.le_trans hBr (Nat.le_of_lt hzx)))
        have hS2 := Lib.hid (hSx.out.below hb2 (by omega))
        have hz2 : w1.heap.size ≤ w2.heap.size := by have := hb2.size; omega
        have hgn : ¬ g = wr.heap.size := by omega
        have hgn2 : ¬ wr.heap.size = g := by omega
        generalize wr.heap.size = gb at hx2 hgn hgn2 ⊢
        obtain ⟨⟨e0, e1, e2, e3, e4, e5, e6⟩, _⟩ := Box.seven hx2
        clear hb2 hbx hx c0 c1 c2 c3 c4 c5 c6 hSx hzx hS hbr HC
        cases Q with
        | true =>
          have hS3 := Lib.hid (Hskip.out _ hS2.out rfl)
          clear Hskip Hkeep hS2
          go_wp2_with fail
          go_roundw
          case rel => exact ⟨i, j + 1, rfl, by go_num, by omega, by omega, hS3, hb3, hz2⟩
          case measure => simp [intOf]; omega
        | false =>
          have hS3 := Lib.hid (Hkeep.out _ hS2.out rfl)
          obtain ⟨v0, v1, v2, v3, v4, v5, v6, d0, d1, d2, d3, d4, d5, d6, f0, f1, f2, f3, f4, f5, f6⟩ := hS2.out.fill.slots7 (k := i) (by omega)
          have hiN : (i : Int) < (N : Int) := by omega
          have hiN2 : i < N := by omega
          clear Hskip Hkeep hS2
          go_wp2_with fail
          go_roundw
          case rel => exact ⟨i + 1, j + 1, by go_num, by go_num, by omega, by omega, hS3, (((((((hb3.setCell (by simpa using hg) _).setCell (by simpa using hg) _).setCell (by simpa using hg) _).setCell (by simpa using hg) _).setCell (by simpa using hg) _).setCell (by simpa using hg) _).setCell (by simpa using hg) _), by simpa [World.setCell] using hz2⟩
          case measure => simp [intOf]; omega
      · obtain rfl : j = N := by omega
        have hge : (j : Int) ≤ (j : Int) := by omega
        have hend : decide (j < j) = false := decide_eq_false hlt
        have hiN : (i : Int) ≤ (j : Int) := by omega
        have hiN2 : i ≤ j := by omega
        have hic : i < cap := by omega
        have hici : (i : Int) < (cap : Int) := by omega
        have hfi := hS.out.fill
        obtain ⟨Z, hZ, hcl⟩ := run_clear_rows (P := Try.prog) wr 24 31 0 (.agg #[.int .i64 0, .int .i64 0, .int .u64 0, .int .i64 0, .string ⟨#[]⟩, .int .i64 0, .int .i64 0]) 7 Try.underlying24 (fun w => by kernel_rfl) (by rfl) (by intro v hv; simp [Value.cells] at hv; rcases hv with rfl | rfl | rfl | rfl | rfl | rfl | rfl <;> rfl) g (i * 7) (j - i) (cap - i) (by omega) (fun t ht => by obtain ⟨⟨u, hu⟩, _⟩ := hfi.2 (i * 7 + t) (by omega); rw [hu]; rfl) (fun t ht => (hfi.2 (i * 7 + t) (by omega)).2)
        go_wp2_with fail
        go_ret
        refine ⟨⟨_, rfl, ?_⟩, below_put g hg Z (i * 7) wr hbr⟩
        have hz3 := (below_put g (Nat.zero_le _) Z (i * 7) wr (Below.refl 0 wr)).size
        exact hS.out.done Z ⟨hg, Nat.lt_of_lt_of_le hgr hz3⟩ hcap
end Go.Proofs.Yteplmjlllnbiiaa.Num
