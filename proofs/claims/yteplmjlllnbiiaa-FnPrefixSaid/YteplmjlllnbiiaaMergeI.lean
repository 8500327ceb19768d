/-
  The walks of the program's firstRun, joinedText, joinedRun and Merged; only new memory is written.
-/
import Derived.Test.YteplmjlllnbiiaaRunI
import Derived.Test.YteplmjlllnbiiaaPrefixS
import Derived.Lib.LazyBuf
import Derived.Deep.OwnRows
import Derived.Deep.RegionLaw
namespace Go.Proofs.Yteplmjlllnbiiaa.Num
open Go.RowKit Go.Proofs
set_option linter.unusedVariables false
set_option linter.unusedSimpArgs false
attribute [local go_sem] Region.wanted yielded

/-- The first k events are a run: one event of another kind, or all the texts at the head. -/
def RunAt (l : List Ev) (k : Nat) : Prop := 0 < k ∧ k ≤ l.length ∧ ∃ h : 0 < l.length, (l[0].kind ≠ 4 ∧ k = 1) ∨ (l[0].kind = 4 ∧ (∀ j (hj : j < l.length), j < k → l[j].kind = 4) ∧ ∀ hk : k < l.length, l[k].kind ≠ 4)
theorem noPart_yes {e : Ev} (h : noPart e = true) : e.kind ≠ 4 := by unfold noPart at h; simpa using h
theorem noPart_no {e : Ev} (h : noPart e = false) : e.kind = 4 := by unfold noPart at h; simpa using h
set_option maxHeartbeats 1000000 in
theorem firstRun_any (b o cap : Nat) (l : List Ev) (w : World) (h : EvsAt w (· < w.heap.size) (.slice (some ⟨b, o, none⟩) l.length cap) l) (hl : l.length ≤ 1048576) (h0 : 0 < l.length) :
    Calls Try.prog 38 #[.slice (some ⟨b, o, none⟩) l.length cap] w fun e w' => (∃ k, RunAt l k ∧ e = .returned (.slice (some ⟨b, o, none⟩) k cap)) ∧ Below w.heap.size w w' := by
  have H := Lib.hid h
  have hcap : l.length ≤ cap := RowAt.cap h
  obtain ⟨b', o', e1, hbC, c0, c1, c2, c3, c4, c5, c6⟩ := h.cellsAt 0 h0
  obtain ⟨rfl, rfl⟩ : b = b' ∧ o = o' := by injection e1 with e1; injection e1 with e1 e2; exact ⟨e1, e2⟩
  simp only [Nat.zero_mul, Nat.add_zero] at c0 c1 c2 c3 c4 c5 c6
  have hc1 : (1 : Int) ≤ (cap : Int) := by omega
  have hc1n : 1 ≤ cap := by omega
  have hl1 : (0 : Int) < (l.length : Int) := by omega
  obtain ⟨Q, hQ⟩ : ∃ Q, (l[0].kind == 4) = Q := ⟨_, rfl⟩
  have HC := Lib.hid (fun w => isPart_any l[0] Q w hQ)
  have HQ := Lib.hid hQ
  clear h e1 hQ
  obtain ⟨e, he⟩ : ∃ e, l[0] = e := ⟨_, rfl⟩
  rw [he] at c0 c1 c2 c3 c4 c5 c6 HC HQ
  have He := Lib.hid he
  clear he
  obtain ⟨K, F, Bt, L, Tx, C, P⟩ := e
  simp only at c0 c1 c2 c3 c4 c5 c6
  go_enter Try.func38, Try.ntmps38
  go_wp2_with fail
  refine (HC.out _).mono ?_
  rintro e w1 ⟨rfl, hb1⟩
  cases Q with
  | false =>
    have hr : Hid (RunAt l 1) := Lib.hid ⟨by omega, by omega, h0, .inl ⟨by rw [He.out]; have := HQ.out; simpa using this, rfl⟩⟩
    go_wp2_with fail
    go_ret
    exact ⟨⟨1, hr.out, rfl⟩, hb1⟩
  | true =>
    have h4 : Hid (l[0].kind = 4) := Lib.hid (by rw [He.out]; have := HQ.out; simpa using this)
    have HI := Lib.hid (idxNoPart_any _ l w1 (H.out.grow hb1 (Nat.le_refl _)) hl)
    go_wp2_with fail
    refine HI.out.mono ?_
    rintro e w2 ⟨⟨i, hi, rfl⟩, hb2⟩
    have hb3 := hb1.trans (hb2.mono hb1.size)
    clear hb1 hb2
    rcases hi with ⟨rfl, hno⟩ | ⟨k, hk, rfl, hp, hno⟩
    · have hr : Hid (RunAt l l.length) := Lib.hid ⟨h0, Nat.le_refl _, h0, .inr ⟨h4.out, fun j hj _ => noPart_no (hno j hj), fun hk => by omega⟩⟩
      clear hno
      go_wp2_with fail
      go_ret
      exact ⟨⟨l.length, hr.out, rfl⟩, hb3⟩
    · have hk0 : 0 < k := by
        rcases Nat.eq_zero_or_pos k with h | h
        · subst h; exact absurd h4.out (noPart_yes hp)
        · exact h
      have hr : Hid (RunAt l k) := Lib.hid ⟨hk0, by omega, h0, .inr ⟨h4.out, fun j hj hjk => noPart_no (hno j hjk), fun _ => noPart_yes hp⟩⟩
      have hkd : decide ((k : Int) < 0) = false := decide_eq_false (by omega)
      have hkc : (k : Int) ≤ (cap : Int) := by omega
      have hkcn : k ≤ cap := by omega
      clear hno hp
      go_wp2_with fail
      go_ret
      exact ⟨⟨k, hr.out, rfl⟩, hb3⟩
/-- The texts of a list, one behind the other. -/
def catL (s : ByteArray) (l : List Ev) : ByteArray := l.foldl (fun s e => s ++ e.text) s
def catE (l : List Ev) : ByteArray := catL ⟨#[]⟩ l
theorem catE_take (l : List Ev) (k : Nat) (hk : k < l.length) : catE (l.take (k + 1)) = catE (l.take k) ++ l[k].text := by
  unfold catE catL; rw [List.take_succ_eq_append_getElem hk, List.foldl_append]; rfl
theorem catE_cons (x : Ev) (r : List Ev) : catE (x :: r) = catL x.text r := by
  show catL (⟨#[]⟩ ++ x.text) r = _
  rw [show (⟨#[]⟩ : ByteArray) ++ x.text = x.text from ba_ext (by simp)]
theorem catL_size (l : List Ev) (s : ByteArray) : (catL s l).size = s.size + textsLen l := by
  induction l generalizing s with
  | nil => simp [catL, textsLen]
  | cons e l ih => show (catL (s ++ e.text) l).size = _; rw [ih, ba_app_size]; simp [textsLen]; omega
theorem catE_size (l : List Ev) : (catE l).size = textsLen l := by unfold catE; rw [catL_size]; show 0 + _ = _; omega
theorem partBytes_parts {l : List Ev} (h : ∀ e ∈ l, e.kind = 4) : partBytes l = textsLen l := by
  induction l with
  | nil => rfl
  | cons e l ih => rw [partBytes_cons, ih fun x hx => h x (by simp [hx])]; simp [textsLen, partLen, h e (by simp)]
theorem info_u8m : ∃ i, Try.prog.info? 5 = some i ∧ i.zero = some (.int .u8 0) ∧ i.size = 1 ∧ i.bytes = 1 := info_parts (by kernel_rfl)
def bytesV (s : ByteArray) : List Value := s.data.toList.map fun x => Value.int .u8 (x.toNat : Int)
theorem bytesV_len (s : ByteArray) : (bytesV s).length = s.size := by unfold bytesV; rw [List.length_map, ← ba_size]
/-- The head of the block holds the string's bytes; N cells may be written. -/
def TextRow (w : World) (g N : Nat) (s : ByteArray) : Prop := Fill w g N ∧ s.size ≤ N ∧ ∀ j (h : j < s.data.toList.length), w.cell? ⟨g, j, none⟩ = some (.int .u8 (s.data.toList[j].toNat : Int))
theorem TextRow.below {w w' : World} {g N D : Nat} {s : ByteArray} (h : TextRow w g N s) (hb : Below D w w') (hg : g < D) : TextRow w' g N s :=
  ⟨h.1.below hb hg, h.2.1, fun j hj => (hb.cell (p := ⟨g, j, none⟩) hg).trans (h.2.2 j hj)⟩
theorem Fill.puts {w : World} {g N : Nat} (h : Fill w g N) : ∀ (vs : List Value) (o : Nat), Fill (w.setCells g o vs) g N := by
  intro vs
  induction vs generalizing w with
  | nil => intro o; exact h
  | cons v r ih => intro o; exact ih (h.set o v) (o + 1)
theorem TextRow.put {w : World} {g N : Nat} {s t : ByteArray} (h : TextRow w g N s) (ht : s.size + t.size ≤ N) : TextRow (w.setCells g s.size (bytesV t)) g N (s ++ t) := by
  obtain ⟨hf, hs, hc⟩ := h
  refine ⟨hf.puts _ _, by rw [ba_app_size]; exact ht, fun j hj => ?_⟩
  simp only [ba_app] at hj ⊢
  have hss := ba_size s
  have hts := ba_size t
  by_cases h1 : j < s.data.toList.length
  · rw [World.cell?_setCells_out g _ _ w ⟨g, j, none⟩ (fun _ _ => .inl (by simp only; omega)), hc j h1, List.getElem_append_left h1]
  · rw [List.length_append] at hj
    have hin := World.cell?_setCells_in g (bytesV t) s.size w (fun i hi => by
      rw [bytesV_len] at hi
      obtain ⟨⟨v, hv⟩, _⟩ := hf.2 (s.size + i) (by omega)
      rw [hv]; rfl) (j - s.size) (by rw [bytesV_len]; omega)
    rw [show s.size + (j - s.size) = j by omega] at hin
    rw [hin, List.getElem_append_right (by omega)]
    simp only [bytesV, List.getElem_map, hss]
theorem freshG {w : World} {b : Nat} {C : Array Value} {T : TypeId} (h : w.heap[b]? = some (.cells C T (0, 0))) (j : Nat) : w.frozen? ⟨b, j, none⟩ = false := by simp [World.frozen?, h]
theorem TextRow.start {w : World} (N : Nat) : TextRow (w.alloc (.cells (madeCells #[Value.int .u8 0] N) 5)) w.heap.size N ⟨#[]⟩ := by
  have hblk := heap_alloc_new w (.cells (madeCells #[Value.int .u8 0] N) 5)
  refine ⟨⟨by simp, fun j hj => ⟨?_, freshG hblk j⟩⟩, Nat.zero_le _, fun j hj => by simp at hj⟩
  rw [cell_of_row _ w.heap.size j _ _ _ hblk]
  have hl := toList_madeCells_one (Value.int .u8 0) N
  exact ⟨.int .u8 0, by rw [← Array.getElem?_toList, hl, List.getElem?_replicate, if_pos hj]⟩
theorem TextRow.done {w : World} {g : Nat} {s : ByteArray} (h : TextRow w g s.size s) : (convert 22 9 (.slice (some ⟨g, 0, none⟩) s.size s.size)).run Try.prog w = .ok (.string s) w := by
  have hr := run_convert_bytes_back (P := Try.prog) w 22 9 5 ⟨g, 0, none⟩ s.size s.data.toList Try.underlying22 Try.underlying5 Try.underlying9 (fun j hj => by
    rw [addNone, Nat.zero_add]; exact h.2.2 j hj)
  rw [← ba_size] at hr
  exact hr
set_option maxHeartbeats 4000000 in
set_option maxRecDepth 100000 in
theorem joinedText_any (v : Value) (l : List Ev) (w : World) (h : EvsAt w (· < w.heap.size) v l) (hl : SmallE l) (hp : ∀ e ∈ l, e.kind = 4 ∧ e.text.size ≠ 0) :
    Calls Try.prog 56 #[v] w fun e w' => e = .returned (.string (catE l)) ∧ Below w.heap.size w w' := by
  obtain ⟨i0, hi, hz0, hz1, hz2⟩ := info_u8m
  have HC := Lib.hid (implPartBytes_any v l w h hl)
  obtain ⟨a, cap, rfl⟩ := h.len
  have H := Lib.hid h
  have hl1 := hl.1
  have Hl := Lib.hid hl.2
  have Hp := Lib.hid hp
  obtain ⟨N, hN⟩ : ∃ N, partBytes l = N := ⟨_, rfl⟩
  rw [hN] at HC
  have HN : Hid (textsLen l = N) := Lib.hid (by rw [← hN, partBytes_parts fun e he => (hp e he).1])
  have hN6 : N ≤ 1048576 := by have := HN.out; have := Hl.out; omega
  clear h hl hp hN
  go_enter Try.func56, Try.ntmps56
  go_wp2_with fail
  refine HC.out.mono ?_
  rintro e w1 ⟨rfl, hb1⟩
  have hz1' := hb1.size
  go_upto_region 4 with (at_make; refine wpList_make_row _ rfl _ _ 22 rfl 5 i0 _ Try.underlying22 hi hz0 hz1 rfl .i64 .i64 N rfl rfl (by rw [hz2]; omega) (by omega) ?_)
  have hT0 := Lib.hid (TextRow.start (w := w1) N)
  have hb0 : Below w.heap.size w (w1.alloc (.cells (madeCells #[Value.int .u8 0] N) 5)) := hb1.alloc hz1' _
  have hg0 : w1.heap.size < (w1.alloc (.cells (madeCells #[Value.int .u8 0] N) 5)).heap.size := by simp
  have hgw : w.heap.size ≤ w1.heap.size := hz1'
  generalize w1.alloc (.cells (madeCells #[Value.int .u8 0] N) 5) = w3 at hT0 hb0 hg0 ⊢
  generalize w1.heap.size = g at hT0 hg0 hgw ⊢
  clear hb1 hz1'
  go_loopw [4, 12] (fun n i wr => ∃ j : Nat, j ≤ l.length ∧ i = .int .i64 j ∧ n = .int .i64 (textsLen (l.take j)) ∧ Hid (TextRow wr g N (catE (l.take j))) ∧ Below w.heap.size w wr ∧ g < wr.heap.size) (fun _ i _ => l.length - (intOf i).toNat)
  case atStart => exact ⟨0, by omega, rfl, rfl, hT0, hb0, hg0⟩
  case round =>
    clear hT0 hb0 hg0
    obtain ⟨j, hj, rfl, rfl, hrow, hbr, hgr⟩ := hrel
    have hzr := hbr.size
    by_cases hlt : j < l.length
    · have hlti : (j : Int) < (l.length : Int) := by omega
      obtain ⟨b, o, rfl, hbC, c0, c1, c2, c3, c4, c5, c6⟩ := H.out.cellsAt j hlt
      rw [← hbr.cell (p := ⟨b, _, none⟩) hbC] at c0 c1 c2 c3 c4 c5 c6
      have Hcat := Lib.hid (catE_take l j hlt)
      have Htx := Lib.hid (textsLen_take l j hlt)
      have hle : textsLen (l.take (j + 1)) ≤ N := by have := texts_take l (j + 1); have := HN.out; omega
      have Hsz : Hid ((catE (l.take j)).size = textsLen (l.take j)) := Lib.hid (catE_size _)
      have htx0 : l[j].text.size ≠ 0 := (Hp.out _ (List.getElem_mem hlt)).2
      generalize textsLen (l.take j) = A at Htx Hsz ⊢
      generalize catE (l.take j) = s at hrow Hcat Hsz
      have hlen2 : A + l[j].text.size ≤ N := by have := Htx.out; omega
      have hAN : A < N := by omega
      have hANi : (A : Int) < (N : Int) := by omega
      have hNA : ¬ N = A := by omega
      have hANi2 : (A : Int) ≤ (N : Int) := by omega
      have hAN2 : A ≤ N := by omega
      clear hle
      generalize l[j] = e at c0 c1 c2 c3 c4 c5 c6 Hcat Htx hlen2 htx0
      obtain ⟨K, F, Bt, L, Tx, C, P⟩ := e
      simp only at c0 c1 c2 c3 c4 c5 c6 hlen2 htx0
      have hx1 := Box.fresh wr #[.int .i64 K, .int .i64 F, .int .u64 Bt, .int .i64 L, .string Tx, .int .i64 C, .int .i64 P] 31
      have hb1 : Below w.heap.size w (wr.alloc (.cells #[.int .i64 K, .int .i64 F, .int .u64 Bt, .int .i64 L, .string Tx, .int .i64 C, .int .i64 P] 31)) := hbr.alloc hzr _
      have Hr1 := Lib.hid (hrow.out.below ((Below.refl wr.heap.size wr).alloc (Nat.le_refl _) (.cells #[.int .i64 K, .int .i64 F, .int .u64 Bt, .int .i64 L, .string Tx, .int .i64 C, .int .i64 P] 31)) hgr)
      have hzx : (wr.alloc (.cells #[.int .i64 K, .int .i64 F, .int .u64 Bt, .int .i64 L, .string Tx, .int .i64 C, .int .i64 P] 31)).heap.size = wr.heap.size + 1 := by simp
      go_upto_region 6 with fail
      generalize wr.alloc (.cells #[.int .i64 K, .int .i64 F, .int .u64 Bt, .int .i64 L, .string Tx, .int .i64 C, .int .i64 P] 31) = wq at hx1 hb1 Hr1 hzx ⊢
      have hgq : g < wq.heap.size := by omega
      generalize wr.heap.size = ge at hx1 ⊢
      clear hrow c0 c1 c2 c3 c4 c5 c6 hbr hbC hzx
      obtain ⟨⟨e0, e1, e2, e3, e4, e5, e6⟩, _⟩ := Box.seven hx1
      have Hput : Hid (TextRow (wq.drew.setCells g A (bytesV Tx)) g N (catE (l.take (j + 1)))) := Lib.hid (by rw [Hcat.out]; have h := TextRow.put (w := wq.drew) Hr1.out (t := Tx) (by rw [Hsz.out]; exact hlen2); rw [Hsz.out] at h; exact h)
      have hok1 : Hid (∀ t, t < Tx.size → (wq.cell? ⟨g, A + t, none⟩).isSome = true) := Lib.hid fun t ht => by obtain ⟨⟨u, hu⟩, _⟩ := Hr1.out.1.2 (A + t) (by omega); rw [hu]; rfl
      have hok2 : Hid (∀ t, t < Tx.size → wq.frozen? ⟨g, A + t, none⟩ = false) := Lib.hid fun t ht => (Hr1.out.1.2 (A + t) (by omega)).2
      go_region_law (refine Go.step_copy_string (by rfl) (.tmp 19) (.tmp 21) 22 9 (by rfl) 5 Try.underlying22 (fun w => by kernel_rfl) g A (N - A) (N - A) (by rfl) Tx (by rfl) (by omega) hok1.out hok2.out ?_)
      have hb2 := below_put g hgw (bytesV Tx) A wq.drew hb1.drew
      have hg2 : g < (wq.drew.setCells g A (bytesV Tx)).heap.size := by have := (below_put g (Nat.zero_le _) (bytesV Tx) A wq.drew (Below.refl 0 wq.drew)).size; simp only [World.drew] at this ⊢; omega
      have hadd : IntKind.i64.wrap ((A : Int) + (Tx.size : Int)) = ((A + Tx.size : Nat) : Int) := by rw [IntWalk.i64_in _ (by omega)]; omega
      clear hok1 hok2 Hr1 e0 e1 e2 e3 e4 e5 e6 hx1 hb1
      go_wp2_with fail
      go_roundw
      case rel => exact ⟨j + 1, by omega, by go_num, by rw [Htx.out]; go_num, Hput, hb2, hg2⟩
      case measure => simp [intOf]; omega
    · have hge : (l.length : Int) ≤ (j : Int) := by omega
      have hend : decide (j < l.length) = false := decide_eq_false hlt
      obtain rfl : j = l.length := by omega
      have hrow2 := hrow.out
      rw [List.take_length] at hrow2
      have hsz : (catE l).size = N := by rw [catE_size]; exact HN.out
      have hdone : Hid ((convert 22 9 (.slice (some ⟨g, 0, none⟩) N N)).run Try.prog wr = .ok (.string (catE l)) wr) := Lib.hid (by rw [← hsz] at hrow2 ⊢; exact hrow2.done)
      clear hrow hrow2 hsz
      obtain ⟨s, hs⟩ : ∃ s, catE l = s := ⟨_, rfl⟩
      rw [hs] at hdone
      have Hs := Lib.hid hs
      have hcv := hdone.out
      clear hs
      go_wp2_with fail
      go_ret
      exact ⟨by rw [Hs.out]; rfl, hbr⟩
set_option maxHeartbeats 4000000 in
set_option maxRecDepth 100000 in
theorem joinedRun_any (v : Value) (x : Ev) (r : List Ev) (w : World) (h : EvsAt w (· < w.heap.size) v (x :: r)) (hl : SmallE (x :: r)) (hp : r ≠ [] → ∀ e ∈ x :: r, e.kind = 4 ∧ e.text.size ≠ 0) :
    Calls Try.prog 39 #[v] w fun e w' => e = .returned (evV { x with text := catE (x :: r) }) ∧ Below w.heap.size w w' := by
  obtain ⟨T, hT⟩ : ∃ T, catE (x :: r) = T := ⟨_, rfl⟩
  rw [hT]
  have HT := Lib.hid hT
  have H := Lib.hid h
  have Hl := Lib.hid hl
  have Hp := Lib.hid hp
  obtain ⟨a, cap, rfl⟩ := h.len
  obtain ⟨b, o, rfl, hbC, c0, c1, c2, c3, c4, c5, c6⟩ := h.cellsAt 0 (by simp)
  simp only [Nat.zero_mul, Nat.add_zero, List.getElem_cons_zero] at c0 c1 c2 c3 c4 c5 c6
  clear h hl hp hT
  obtain ⟨n, hn⟩ : ∃ n, (x :: r).length = n := ⟨_, rfl⟩
  have hn1 : n = r.length + 1 := by rw [← hn]; rfl
  rw [hn] at H ⊢
  have hn0 : (0 : Int) < (n : Int) := by omega
  have hn00 : 0 < n := by omega
  obtain ⟨K, F, Bt, L, Tx, C, P⟩ := x
  simp only at c0 c1 c2 c3 c4 c5 c6
  unfold evV
  simp only
  have hb1 : Below w.heap.size w (w.alloc (.cells #[.int .i64 0, .int .i64 0, .int .u64 0, .int .i64 0, .string ⟨#[]⟩, .int .i64 0, .int .i64 0] 31)) := (Below.refl _ _).alloc (Nat.le_refl _) _
  have hz1 : (w.alloc (.cells #[.int .i64 0, .int .i64 0, .int .u64 0, .int .i64 0, .string ⟨#[]⟩, .int .i64 0, .int .i64 0] 31)).heap.size = w.heap.size + 1 := by simp
  have hxr := Box.fresh w #[.int .i64 0, .int .i64 0, .int .u64 0, .int .i64 0, .string ⟨#[]⟩, .int .i64 0, .int .i64 0] 31
  have hbC0 : b < w.heap.size := hbC
  by_cases hr : r = []
  · have hTx : T = Tx := by rw [← HT.out, hr, catE_cons]; rfl
    obtain rfl : n = 1 := by rw [hn1, hr]; rfl
    subst hTx
    clear hn hn1 hr hn0 hn00 HT H
    go_enter Try.func39, Try.ntmps39
    go_wp2_with fail
    refine bodyPost_ret (v := .agg #[.int .i64 K, .int .i64 F, .int .u64 Bt, .int .i64 L, .string T, .int .i64 C, .int .i64 P]) (by simp [results, Try.results39, go_sem]) rfl ⟨rfl, ?_⟩
    exact ((Below.refl _ _).alloc (Nat.le_refl _) _).alloc (by simp) _
  · have hn2 : (1 : Int) < (n : Int) := by have : 0 < r.length := List.length_pos_iff.2 hr; omega
    have Hp2 := Lib.hid (Hp.out hr)
    clear hn hn1 hr
    have hx := Box.fresh (w.alloc (.cells #[.int .i64 0, .int .i64 0, .int .u64 0, .int .i64 0, .string ⟨#[]⟩, .int .i64 0, .int .i64 0] 31)) #[.int .i64 K, .int .i64 F, .int .u64 Bt, .int .i64 L, .string Tx, .int .i64 C, .int .i64 P] 31
    have hb2 : Below w.heap.size w ((w.alloc (.cells #[.int .i64 0, .int .i64 0, .int .u64 0, .int .i64 0, .string ⟨#[]⟩, .int .i64 0, .int .i64 0] 31)).alloc (.cells #[.int .i64 K, .int .i64 F, .int .u64 Bt, .int .i64 L, .string Tx, .int .i64 C, .int .i64 P] 31)) := hb1.alloc hb1.size _
    have hxr2 := hxr.alloc (.cells #[.int .i64 K, .int .i64 F, .int .u64 Bt, .int .i64 L, .string Tx, .int .i64 C, .int .i64 P] 31)
    have HC := Lib.hid (joinedText_any (.slice (some ⟨b, o, none⟩) n cap) (⟨K, F, Bt, L, Tx, C, P⟩ :: r) _ (H.out.grow hb2 (Nat.le_refl _)) Hl.out Hp2.out)
    rw [HT.out] at HC
    go_enter Try.func39, Try.ntmps39
    go_wp2_with fail
    refine HC.out.mono ?_
    rintro e w3 ⟨rfl, hb3⟩
    have hx3 := hx.below hb3 hx.lt
    have hxr3 := hxr2.below hb3 hxr2.lt
    have hb4 := hb2.trans (hb3.mono hb2.size)
    rw [hz1] at hx3
    clear hb3 hb2 hb1 hx hxr hxr2 HC hz1
    have hz3 := hx3.lt
    have hne1 : ¬ w.heap.size + 1 = w.heap.size := by omega
    have hne2 : ¬ w.heap.size = w.heap.size + 1 := by omega
    have hgB : w.heap.size ≤ w.heap.size + 1 := by omega
    generalize w.heap.size + 1 = gx at hx3 hz3 hne1 hne2 hgB ⊢
    obtain ⟨⟨e0, e1, e2, e3, e4, e5, e6⟩, f0, f1, f2, f3, f4, f5, f6⟩ := Box.seven hx3
    obtain ⟨⟨r0, r1, r2, r3, r4, r5, r6⟩, s0, s1, s2, s3, s4, s5, s6⟩ := Box.seven hxr3
    clear c0 c1 c2 c3 c4 c5 c6
    go_wp2_with fail
    refine bodyPost_ret (v := .agg #[.int .i64 K, .int .i64 F, .int .u64 Bt, .int .i64 L, .string T, .int .i64 C, .int .i64 P]) (by simp [results, Try.results39, go_sem, r0, r1, r2, r3, r4, r5, r6, hne1, hne2]) rfl ⟨rfl, ?_⟩
    repeat (first | with_reducible exact hb4 | refine Below.setCell ?_ (by first | exact hgB | exact Nat.le_refl _) _)
/-! What a run adds to what is merged. -/
def Full (l : List Ev) : Prop := ∀ e ∈ l, ¬ (e.kind = 4 ∧ e.text.size = 0)
def Loose (out rest : List Ev) : Prop := ∀ x, out.getLast? = some x → x.kind = 4 → ∀ y, rest.head? = some y → y.kind ≠ 4
theorem join_all : ∀ (r out : List Ev) (x : Ev), x.kind = 4 → (∀ e ∈ r, e.kind = 4 ∧ e.text.size ≠ 0) → r.foldl mergeStep (out ++ [x]) = out ++ [{ x with text := catL x.text r }]
  | [], out, x, _, _ => rfl
  | e :: r, out, x, hx, h => by
    rw [List.foldl_cons, merge_join (h e (by simp)).2 (h e (by simp)).1 hx]
    rw [join_all r out { x with text := x.text ++ e.text } hx fun y hy => h y (by simp [hy])]
    rfl
theorem run_parts {x : Ev} {r : List Ev} {k : Nat} (hf : Full (x :: r)) (h : RunAt (x :: r) k) : ∃ k', k = k' + 1 ∧ k' ≤ r.length ∧ (r.take k' ≠ [] → ∀ e ∈ x :: r.take k', e.kind = 4 ∧ e.text.size ≠ 0) := by
  obtain ⟨h0, hk, _, hr⟩ := h
  obtain ⟨k', rfl⟩ : ∃ k', k = k' + 1 := ⟨k - 1, by omega⟩
  simp only [List.length_cons] at hk
  refine ⟨k', rfl, by omega, fun hne e he => ?_⟩
  rcases hr with ⟨_, h1⟩ | ⟨_, h1, _⟩
  · obtain rfl : k' = 0 := by omega
    simp at hne
  · have he' : e ∈ (x :: r).take (k' + 1) := by rw [List.take_succ_cons]; exact he
    obtain ⟨j, hj, rfl⟩ := List.getElem_of_mem he'
    rw [List.length_take] at hj
    rw [List.getElem_take]
    have h4 := h1 j (by omega) (by omega)
    exact ⟨h4, fun e0 => hf _ (List.getElem_mem _) ⟨h4, e0⟩⟩
theorem run_adds {x : Ev} {r out : List Ev} {k' : Nat} (hf : Full (x :: r)) (ha : Loose out (x :: r)) (hp : r.take k' ≠ [] → ∀ e ∈ x :: r.take k', e.kind = 4 ∧ e.text.size ≠ 0) : (x :: r.take k').foldl mergeStep out = out ++ [{ x with text := catE (x :: r.take k') }] := by
  have hx : ¬ (x.kind = 4 ∧ x.text.size = 0) := hf x (by simp)
  have h1 : mergeStep out x = out ++ [x] := by
    rcases nil_or_last out with rfl | ⟨i, z, rfl⟩
    · exact merge_nil hx
    · exact merge_push hx fun g => ha z (by simp) g.2 x (by simp) g.1
  rw [List.foldl_cons, h1, catE_cons]
  by_cases hne : r.take k' = []
  · rw [hne]; rfl
  · have := hp hne
    exact join_all _ _ _ (this x (by simp)).1 fun e he => this e (by simp [he])
theorem run_apart {x E : Ev} {r out : List Ev} {k : Nat} (h : RunAt (x :: r) k) (hE : E.kind = x.kind) : Loose (out ++ [E]) ((x :: r).drop k) := by
  intro z hz hz4 y hy
  obtain rfl : E = z := by simpa using hz
  obtain ⟨h0, hk, _, hr⟩ := h
  rcases hr with ⟨h1, _⟩ | ⟨_, _, h3⟩
  · exact absurd (hE ▸ hz4) h1
  · rw [List.head?_drop] at hy
    obtain ⟨hk2, rfl⟩ := List.getElem?_eq_some_iff.1 hy
    exact h3 hk2
theorem full_drop {l : List Ev} {k : Nat} (h : Full l) : Full (l.drop k) := fun e he => h e (List.mem_of_mem_drop he)
theorem full_filter (l : List Ev) : Full (l.filter fun e => !emptyPart e) := by
  intro e he hh
  have := (List.mem_filter.1 he).2
  unfold emptyPart at this
  rw [decide_eq_true hh] at this
  cases this
theorem merged_filter (l : List Ev) : mergedE (l.filter fun e => !emptyPart e) = mergedE l := by
  have key : ∀ (l out : List Ev), (l.filter fun e => !emptyPart e).foldl mergeStep out = l.foldl mergeStep out := by
    intro l
    induction l with
    | nil => intro out; rfl
    | cons e l ih =>
      intro out
      by_cases h : e.kind = 4 ∧ e.text.size = 0
      · rw [List.filter_cons, if_neg (by unfold emptyPart; simp [h]), List.foldl_cons, merge_skip h, ih]
      · rw [List.filter_cons, if_pos (by unfold emptyPart; rw [decide_eq_false h]; rfl), List.foldl_cons, List.foldl_cons, ih]
  exact key l []
theorem texts_filter (l : List Ev) (p : Ev → Bool) : textsLen (l.filter p) ≤ textsLen l := by
  induction l with
  | nil => simp [textsLen]
  | cons e l ih =>
    rw [List.filter_cons]
    split
    · simp only [textsLen, List.map_cons, List.sum_cons] at ih ⊢; omega
    · simp only [textsLen, List.map_cons, List.sum_cons] at ih ⊢; omega
theorem texts_drop (l : List Ev) (k : Nat) : textsLen (l.drop k) ≤ textsLen l := by
  conv => rhs; rw [← List.take_append_drop k l]
  rw [textsLen_append]; omega
/-- What is left of a list that is read. -/
theorem EvsAt.tail {w : World} {S : Nat → Prop} {b o n cap : Nat} {l : List Ev} (h : EvsAt w S (.slice (some ⟨b, o, none⟩) n cap) l) (k : Nat) (hk : k ≤ l.length) (hn : l.length = n) (A : Option Addr) (hA : k < l.length → A = some ⟨b, o + k * 7, none⟩) : EvsAt w S (.slice A (n - k) (cap - k)) (l.drop k) := by
  have hl : (l.drop k).length = n - k := by rw [List.length_drop]; omega
  by_cases h0 : k = l.length
  · rw [h0, List.drop_length, show n - l.length = 0 by omega]; exact EvsAt.nil _ _ _ _
  · obtain rfl := hA (by omega)
    have hcap : l.length ≤ cap := RowAt.cap h
    rw [← hl]
    refine evsAt_of (fun i hi => ?_) ?_ (by omega)
    · rw [hl] at hi
      obtain ⟨b', o', e1, _, hc⟩ := h.cellsAt (k + i) (by omega)
      injection e1 with e1; injection e1 with e1 e2
      subst e1 e2
      rw [List.getElem_drop]
      rw [show o + k * 7 + i * 7 = o + (k + i) * 7 by omega]
      exact hc
    · obtain ⟨b', o', e1, hS, _⟩ := h.cellsAt k (by omega)
      injection e1 with e1; injection e1 with e1 e2
      subst e1; exact hS
set_option maxHeartbeats 8000000 in
set_option maxRecDepth 100000 in
theorem implMerged_any (v : Value) (l : List Ev) (w : World) (h : EvsAt w (· < w.heap.size) v l) (hl : SmallE l) :
    Calls Try.prog 13 #[v] w fun e w' => ∃ a cap, e = .returned (.slice a (mergedE l).length cap) ∧ OwnE w' w.heap.size 31 (.slice a (mergedE l).length cap) (mergedE l) ∧ Below w.heap.size w w' := by
  obtain ⟨i0, hi, hz0, hz1, hz2⟩ := info_parts info_event
  have HCl := Lib.hid (clone_any v l w h hl.1)
  have hl1 := hl.1
  have Hl := Lib.hid hl.2
  clear h
  obtain ⟨R, hR⟩ : ∃ R, mergedE l = R := ⟨_, rfl⟩
  rw [hR]
  have HR := Lib.hid hR
  clear hR hl
  go_enter Try.func13, Try.ntmps13
  go_wp2_with fail
  refine HCl.out.mono ?_
  rintro e w1 ⟨⟨a1, c1, rfl, ho1⟩, hb1⟩
  have HD := Lib.hid (deleteEmpty_any _ l w1 w.heap.size ho1 hb1.size hl1)
  clear ho1
  go_wp2_with fail
  refine HD.out.mono ?_
  rintro e w2 ⟨⟨u, rfl, hu⟩, hb2⟩
  have hbw : Below w.heap.size w w2 := hb1.trans hb2
  have hzw := hbw.size
  have HL := Lib.hid (hu.wide (S' := (· < w2.heap.size)) fun _ h => h.2)
  obtain ⟨a0, c0, rfl⟩ := hu.len
  have hlen0 : (l.filter fun e => !emptyPart e).length ≤ 1048576 := Nat.le_trans (List.length_filter_le _ _) hl1
  have HM := Lib.hid (show (l.filter fun e => !emptyPart e).foldl mergeStep [] = R from (merged_filter l).trans HR.out)
  have HFu := Lib.hid (full_filter l)
  have HTx : Hid (textsLen (l.filter fun e => !emptyPart e) ≤ 1048576) := Lib.hid (by have := texts_filter l (fun e => !emptyPart e); have := Hl.out; omega)
  clear hu hb1 hb2 HCl HD
  generalize (l.filter fun e => !emptyPart e) = fl at HL HM HFu HTx hlen0 ⊢
  obtain ⟨n0, hn0⟩ : ∃ n0, fl.length = n0 := ⟨_, rfl⟩
  rw [hn0] at HL hlen0 ⊢
  have Hn0 := Lib.hid hn0
  clear hn0
  go_upto_region 3 with fail
  go_loopg [3, 4] n0 (fun gm s3 s4 wr => ∃ (rest out : List Ev) (a3 a4 : Option Addr) (c3 n4 c4 : Nat), s3 = .slice a3 gm c3 ∧ s4 = .slice a4 n4 c4 ∧ n4 + gm ≤ 1048576 ∧ Hid (rest.length = gm) ∧ Hid (EvsAt w2 (· < w2.heap.size) (.slice a3 gm c3) rest) ∧ Hid (out.length = n4) ∧ Hid (OwnE wr w2.heap.size 31 (.slice a4 n4 c4) out) ∧ Hid (rest.foldl mergeStep out = R ∧ Loose out rest ∧ Full rest ∧ textsLen rest ≤ 1048576) ∧ Below w2.heap.size w2 wr)
  case atStart => exact ⟨fl, [], a0, none, c0, 0, 0, rfl, rfl, by omega, Hn0, HL, Lib.hid rfl, Lib.hid (OwnE.nil _ _ _), Lib.hid ⟨HM.out, fun x hx => by simp at hx, HFu.out, HTx.out⟩, Below.refl _ _⟩
  case round =>
    clear HL HM HFu HTx Hn0 hlen0
    obtain ⟨rest, out, a3, a4, c3, n4, c4, rfl, rfl, hcnt, Hlen, HE, Hol, HO, HI, hbr⟩ := hrel
    have hzr := hbr.size
    by_cases hpos : 0 < gk
    · have hposi : (0 : Int) < (gk : Int) := by omega
      obtain ⟨x, r, rfl⟩ : ∃ x r, rest = x :: r := by
        cases rest with
        | nil => have := Hlen.out; simp at this; omega
        | cons x r => exact ⟨x, r, rfl⟩
      obtain ⟨b, o, rfl, hbC, _⟩ := HE.out.cellsAt 0 (by simp)
      have HEr : Hid (EvsAt wr (· < wr.heap.size) (.slice (some ⟨b, o, none⟩) gk c3) (x :: r)) := Lib.hid (HE.out.grow hbr (Nat.le_refl _))
      have HF : Hid (Calls Try.prog 38 #[.slice (some ⟨b, o, none⟩) gk c3] wr fun e w' => (∃ k, RunAt (x :: r) k ∧ e = .returned (.slice (some ⟨b, o, none⟩) k c3)) ∧ Below wr.heap.size wr w') := Lib.hid (by
        have h1 := HEr.out
        rw [← Hlen.out] at h1 ⊢
        exact firstRun_any b o c3 (x :: r) wr h1 (by have := Hlen.out; omega) (by simp))
      go_wp2_with fail
      refine HF.out.mono ?_
      rintro e w3 ⟨⟨k, hrun, rfl⟩, hb3⟩
      obtain ⟨k', hk', hkr, hpar⟩ := run_parts HI.out.2.2.1 hrun
      have hkg : k ≤ gk := by have := Hlen.out; simp only [List.length_cons] at this; omega
      have hk0 : 0 < k := by omega
      have Hrun := Lib.hid hrun
      have HO3 := Lib.hid (HO.out.below hb3 (Nat.le_refl _))
      have Htake : Hid (x :: r.take k' = (x :: r).take k) := Lib.hid (by rw [hk', List.take_succ_cons])
      have HE3 : Hid (EvsAt w3 (· < w3.heap.size) (.slice (some ⟨b, o, none⟩) k c3) (x :: r.take k')) := Lib.hid (by
        rw [Htake.out]
        exact (HEr.out.grow hb3 (Nat.le_refl _)).pre k hrun.2.1)
      have HJ := Lib.hid (joinedRun_any _ x (r.take k') w3 HE3.out ⟨by have := Hlen.out; simp only [List.length_cons, List.length_take] at this ⊢; omega, by
        have h1 := texts_take (x :: r) k
        rw [← Htake.out] at h1
        have := HI.out.2.2.2; omega⟩ hpar)
      have Hadd : Hid ((x :: r.take k').foldl mergeStep out = out ++ [{ x with text := catE (x :: r.take k') }]) := Lib.hid (run_adds HI.out.2.2.1 HI.out.2.1 hpar)
      obtain ⟨E, hE⟩ : ∃ E : Ev, ({ x with text := catE (x :: r.take k') } : Ev) = E := ⟨_, rfl⟩
      have HEk : Hid (E.kind = x.kind) := Lib.hid (by rw [← hE])
      rw [hE] at HJ Hadd
      have hb23 := hbr.trans (hb3.mono hzr)
      have hz3 := hb3.size
      clear hE hrun hk' hkr hpar hb3 HF HEr HE3
      obtain ⟨K, F, Bt, L, Tx, C, P, rfl⟩ := E.eta
      unfold evV at HJ
      simp only at HJ
      go_wp2_with fail
      refine HJ.out.mono ?_
      rintro e w4 ⟨rfl, hb4⟩
      have HO4 := Lib.hid (HO3.out.below hb4 (Nat.le_refl _))
      have hb24 := hb23.trans (hb4.mono hb23.size)
      have hz4 := hb24.size
      obtain ⟨A, hA⟩ : ∃ A, (if c3 = k then some (⟨b, o, none⟩ : Addr) else some ⟨b, o + k * 7, none⟩) = A := ⟨_, rfl⟩
      have hcap : gk ≤ c3 := by have h1 := RowAt.cap HE.out; have := Hlen.out; omega
      have HEn : Hid (EvsAt w2 (· < w2.heap.size) (.slice A (gk - k) (c3 - k)) ((x :: r).drop k)) := Lib.hid (HE.out.tail k (by have := Hlen.out; omega) Hlen.out A (fun h => by rw [← hA, if_neg (by have := Hlen.out; omega)]))
      have hHd : Hid (((x :: r).drop k).length = gk - k) := Lib.hid (by rw [List.length_drop, Hlen.out])
      have HIn : Hid (((x :: r).drop k).foldl mergeStep (out ++ [⟨K, F, Bt, L, Tx, C, P⟩]) = R ∧ Loose (out ++ [⟨K, F, Bt, L, Tx, C, P⟩]) ((x :: r).drop k) ∧ Full ((x :: r).drop k) ∧ textsLen ((x :: r).drop k) ≤ 1048576) := Lib.hid (by
        refine ⟨?_, run_apart Hrun.out HEk.out, full_drop HI.out.2.2.1, Nat.le_trans (texts_drop _ _) HI.out.2.2.2⟩
        rw [← HI.out.1, ← Hadd.out, Htake.out, ← List.foldl_append, List.take_append_drop])
      have HOn : Hid (w4.ownsRow w2.heap.size 31 7 (.slice a4 n4 c4) n4 (out.flatMap evC)) := Lib.hid (by have h := HO4.out; unfold OwnE at h; rw [Hol.out] at h; exact h)
      have Hol2 : Hid ((out ++ [(⟨K, F, Bt, L, Tx, C, P⟩ : Ev)]).length = n4 + 1) := Lib.hid (by rw [List.length_append, Hol.out]; rfl)
      have Hnew := Lib.hid (heap_alloc_new w4 (.cells #[.int .i64 K, .int .i64 F, .int .u64 Bt, .int .i64 L, .string Tx, .int .i64 C, .int .i64 P] 31))
      have Happ : Hid (∀ g2 cap2 w5, w5.ownsRow w2.heap.size 31 7 (.slice (some ⟨g2, 0, none⟩) (n4 + 1) cap2) (n4 + 1) (out.flatMap evC ++ evC ⟨K, F, Bt, L, Tx, C, P⟩) → OwnE w5 w2.heap.size 31 (.slice (some ⟨g2, 0, none⟩) (n4 + 1) cap2) (out ++ [⟨K, F, Bt, L, Tx, C, P⟩])) := Lib.hid fun g2 cap2 w5 h => by
        unfold OwnE
        rw [Hol2.out, flat_snoc]; exact h
      generalize out ++ [(⟨K, F, Bt, L, Tx, C, P⟩ : Ev)] = out2 at HIn Hol2 Happ
      generalize (x :: r).drop k = rest2 at HEn hHd HIn
      have hkc : (k : Int) ≤ (gk : Int) := by omega
      have hcapi : (gk : Int) ≤ (c3 : Int) := by omega
      clear HI Hadd HEk Htake Hrun HJ HO3 HO hbr hb23 hb4 HE Hlen hbC
      go_wp2_with (at_builtin; refine wpList_append_lies _ (by rfl) (.tmp 14) (.tmp 17) 24 (by rfl) w2.heap.size 31 i0 _ 7 64 Try.underlying24 hi hz0 hz1 hz2 (by rfl) (by omega) (.slice a4 n4 c4) n4 _ (by rfl) (World.ownsRow.alloc HOn.out _) ⟨w4.heap.size, 0, none⟩ 1 1 (evC ⟨K, F, Bt, L, Tx, C, P⟩) (by rfl) (by rfl) (fun j u hj => World.news_of_block Hnew.out j u hj) (by intro u hu; simp [evC] at hu; rcases hu with rfl | rfl | rfl | rfl | rfl | rfl | rfl <;> rfl) (by omega) (by unfold maxLen; omega) (by omega) (by simp; omega) _ rfl ?_; intro g2 cap2 w5 hown2 hg2 hor2 hlt2)
      have ho2 := Lib.hid (Happ.out _ _ _ hown2)
      have hb25 := (hb24.alloc hz4 (.cells #[.int .i64 K, .int .i64 F, .int .u64 Bt, .int .i64 L, .string Tx, .int .i64 C, .int .i64 P] 31)).grown hg2 (by simp; omega) (fun q hq => (World.ownsRow.lt HOn.out q hq).1)
      clear hown2 hg2 hor2 Happ Hnew HOn HO4 hb24
      go_roundg (gk - k)
      case measure => omega
      case rel => exact ⟨rest2, out2, A, some ⟨g2, 0, none⟩, c3 - k, n4 + 1, cap2, rfl, rfl, by omega, hHd, HEn, Hol2, ho2, HIn, hb25⟩
    · obtain rfl : gk = 0 := by omega
      have hr0 : rest = [] := List.length_eq_zero_iff.1 Hlen.out
      have hout : out = R := by have h := HI.out.1; rw [hr0] at h; exact h
      subst hout
      have Hol2 := Lib.hid Hol.out
      have hbf := hbw.trans (hbr.mono hzw)
      have HOw := Lib.hid (HO.out.wide hzw)
      clear HI HE Hlen Hol hpos
      go_wp2_with fail
      go_ret
      exact ⟨a4, c4, by rw [Hol2.out]; rfl, by rw [Hol2.out]; exact HOw.out, hbf⟩
end Go.Proofs.Yteplmjlllnbiiaa.Num
