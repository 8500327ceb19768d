/-
  Plain facts on lists of events: merging adjacent texts, dividing texts, prefixes, lengths. For any program.
-/
import Derived.Test.YtcnpdcmdnmfnaaaGreatEv
namespace Go.Proofs.YtcnpdcmdnmfnaaaGreat.Num
open Go.RowKit Go.Proofs
set_option linter.unusedVariables false

theorem ba_ext {a b : ByteArray} (h : a.data.toList = b.data.toList) : a = b := by
  obtain ⟨⟨x⟩⟩ := a; obtain ⟨⟨y⟩⟩ := b; simp only at h; rw [h]
theorem ba_size (a : ByteArray) : a.size = a.data.toList.length := by rw [Array.length_toList]; rfl
theorem ba_zero {a : ByteArray} (h : a.size = 0) : a = ⟨#[]⟩ := ba_ext (by rw [ba_size] at h; exact List.length_eq_zero_iff.1 h)
theorem ba_app (a b : ByteArray) : (a ++ b).data.toList = a.data.toList ++ b.data.toList := by simp
theorem ba_app_size (a b : ByteArray) : (a ++ b).size = a.size + b.size := by rw [ba_size, ba_app, List.length_append, ← ba_size, ← ba_size]
theorem ba_assoc (a b c : ByteArray) : a ++ b ++ c = a ++ (b ++ c) := ba_ext (by simp)
theorem ba_ext_list (s : ByteArray) (i j : Nat) (hj : j ≤ s.size) : (s.extract i j).data.toList = (s.data.toList.take j).drop i := by
  rw [ByteArray.data_extract]
  simp [Array.toList_extract, List.extract_eq_take_drop, List.drop_take]
theorem ba_split (s : ByteArray) (k : Nat) (hk : k ≤ s.size) : s.extract 0 k ++ s.extract k s.size = s := ba_ext (by
  rw [ba_app, ba_ext_list _ _ _ hk, ba_ext_list _ _ _ (Nat.le_refl _)]
  rw [show s.data.toList.take s.size = s.data.toList by rw [ba_size]; exact List.take_length]
  simp)
theorem ba_extract_size (s : ByteArray) (i j : Nat) (hj : j ≤ s.size) : (s.extract i j).size = j - i := by
  rw [ba_size, ba_ext_list _ _ _ hj, List.length_drop, List.length_take, ← ba_size]; omega

def part (e : Ev) : Bool := decide (e.kind = 4)
def emptyPart (e : Ev) : Bool := decide (e.kind = 4 ∧ e.text.size = 0)
/-- One event more, merged onto what is there. -/
def mergeStep (out : List Ev) (e : Ev) : List Ev :=
  if emptyPart e = true then out
  else match out.getLast? with
    | none => [e]
    | some x => if e.kind = 4 ∧ x.kind = 4 then out.dropLast ++ [{ x with text := x.text ++ e.text }] else out ++ [e]
def mergedE (l : List Ev) : List Ev := l.foldl mergeStep []
theorem merge_skip {out : List Ev} {e : Ev} (h : e.kind = 4 ∧ e.text.size = 0) : mergeStep out e = out := by unfold mergeStep emptyPart; rw [if_pos (decide_eq_true h)]
theorem merge_nil {e : Ev} (h : ¬ (e.kind = 4 ∧ e.text.size = 0)) : mergeStep [] e = [e] := by unfold mergeStep emptyPart; rw [if_neg (by simpa using h)]; rfl
theorem merge_join {init : List Ev} {x e : Ev} (h : e.text.size ≠ 0) (he : e.kind = 4) (hx : x.kind = 4) : mergeStep (init ++ [x]) e = init ++ [{ x with text := x.text ++ e.text }] := by
  unfold mergeStep emptyPart
  rw [if_neg (by simp [h])]
  simp [he, hx]
theorem merge_push {init : List Ev} {x e : Ev} (h : ¬ (e.kind = 4 ∧ e.text.size = 0)) (hn : ¬ (e.kind = 4 ∧ x.kind = 4)) : mergeStep (init ++ [x]) e = init ++ [x] ++ [e] := by
  unfold mergeStep emptyPart
  rw [if_neg (by simpa using h)]
  simp only [List.getLast?_concat]
  rw [if_neg hn]
theorem nil_or_last (l : List Ev) : l = [] ∨ ∃ i x, l = i ++ [x] := by
  rcases List.eq_nil_or_concat l with h | ⟨i, x, h⟩
  · exact .inl h
  · exact .inr ⟨i, x, by simpa using h⟩
theorem merged_take (l : List Ev) (k : Nat) (hk : k < l.length) : mergedE (l.take (k + 1)) = mergeStep (mergedE (l.take k)) l[k] := by
  unfold mergedE; rw [List.take_succ_eq_append_getElem hk, List.foldl_append]; rfl
theorem merged_append (a b : List Ev) : mergedE (a ++ b) = b.foldl mergeStep (mergedE a) := by unfold mergedE; rw [List.foldl_append]
theorem mergeStep_len (out : List Ev) (e : Ev) : (mergeStep out e).length ≤ out.length + 1 := by
  by_cases h : e.kind = 4 ∧ e.text.size = 0
  · rw [merge_skip h]; omega
  · rcases nil_or_last out with rfl | ⟨i, x, rfl⟩
    · rw [merge_nil h]; simp
    · by_cases hn : e.kind = 4 ∧ x.kind = 4
      · rw [merge_join (fun e0 => h ⟨hn.1, e0⟩) hn.1 hn.2]; simp
      · rw [merge_push h hn]; simp
theorem merged_len (l : List Ev) : (mergedE l).length ≤ l.length := by
  have key : ∀ (l out : List Ev), (l.foldl mergeStep out).length ≤ out.length + l.length := by
    intro l
    induction l with
    | nil => intro out; simp
    | cons e l ih => intro out; simp only [List.foldl_cons, List.length_cons]; have := ih (mergeStep out e); have := mergeStep_len out e; omega
  have := key l []; simpa [mergedE] using this
/-- The total and the greatest length of the texts. -/
def partLen (e : Ev) : Nat := if e.kind = 4 then e.text.size else 0
def partBytes (l : List Ev) : Nat := (l.map partLen).sum
def longestPart (l : List Ev) : Nat := l.foldl (fun n e => max n (partLen e)) 0
theorem partBytes_append (a b : List Ev) : partBytes (a ++ b) = partBytes a + partBytes b := by simp [partBytes]
theorem partBytes_cons (e : Ev) (b : List Ev) : partBytes (e :: b) = partLen e + partBytes b := by simp [partBytes]
theorem partBytes_take (l : List Ev) (k : Nat) (hk : k < l.length) : partBytes (l.take (k + 1)) = partBytes (l.take k) + partLen l[k] := by
  rw [List.take_succ_eq_append_getElem hk, partBytes_append]; simp [partBytes]
theorem partLen_le (e : Ev) : partLen e ≤ e.text.size := by unfold partLen; split <;> omega
theorem partBytes_le (l : List Ev) : partBytes l ≤ textsLen l := by
  induction l with
  | nil => simp [partBytes, textsLen]
  | cons e l ih =>
    rw [partBytes_cons]; have := partLen_le e; simp only [textsLen, List.map_cons, List.sum_cons] at ih ⊢; omega
theorem partBytes_take_le (l : List Ev) (k : Nat) : partBytes (l.take k) ≤ partBytes l := by
  conv => rhs; rw [← List.take_append_drop k l]
  rw [partBytes_append]; omega
theorem longest_take (l : List Ev) (k : Nat) (hk : k < l.length) : longestPart (l.take (k + 1)) = max (longestPart (l.take k)) (partLen l[k]) := by
  unfold longestPart; rw [List.take_succ_eq_append_getElem hk, List.foldl_append]; rfl
theorem foldl_max_le {l : List Ev} {n N : Nat} (hn : n ≤ N) (h : ∀ e ∈ l, partLen e ≤ N) : l.foldl (fun n e => max n (partLen e)) n ≤ N := by
  induction l generalizing n with
  | nil => exact hn
  | cons e l ih => exact ih (Nat.max_le.2 ⟨hn, h e (by simp)⟩) fun x hx => h x (by simp [hx])
theorem longest_le {l : List Ev} {N : Nat} (h : ∀ e ∈ l, partLen e ≤ N) : longestPart l ≤ N := foldl_max_le (Nat.zero_le _) h
theorem mergeStep_bytes (out : List Ev) (e : Ev) : partBytes (mergeStep out e) = partBytes out + partLen e := by
  by_cases h : e.kind = 4 ∧ e.text.size = 0
  · rw [merge_skip h]; unfold partLen; rw [if_pos h.1, h.2]; omega
  · rcases nil_or_last out with rfl | ⟨i, x, rfl⟩
    · rw [merge_nil h]; simp [partBytes]
    · by_cases hn : e.kind = 4 ∧ x.kind = 4
      · rw [merge_join (fun e0 => h ⟨hn.1, e0⟩) hn.1 hn.2, partBytes_append, partBytes_append]
        simp only [partBytes, List.map_cons, List.map_nil, List.sum_cons, List.sum_nil, partLen, hn.1, hn.2, if_true, ba_app_size]; omega
      · rw [merge_push h hn, partBytes_append]; simp [partBytes]
theorem merged_bytes (l : List Ev) : partBytes (mergedE l) = partBytes l := by
  have key : ∀ (l out : List Ev), partBytes (l.foldl mergeStep out) = partBytes out + partBytes l := by
    intro l
    induction l with
    | nil => intro out; simp [partBytes]
    | cons e l ih => intro out; simp only [List.foldl_cons]; rw [ih, mergeStep_bytes, partBytes_cons]; omega
  have := key l []; simpa [mergedE, partBytes] using this
/-- No two adjacent texts, no empty one. -/
def Calm (l : List Ev) : Prop := (∀ e ∈ l, ¬ (e.kind = 4 ∧ e.text.size = 0)) ∧ ∀ i (h : i + 1 < l.length), ¬ (l[i].kind = 4 ∧ l[i + 1].kind = 4)
theorem calm_nil : Calm [] := ⟨by simp, fun i h => by simp at h⟩
theorem calm_one {e : Ev} (h : ¬ (e.kind = 4 ∧ e.text.size = 0)) : Calm [e] := ⟨by simpa using h, fun i hi => by simp at hi⟩
theorem calm_swap {i : List Ev} {x y : Ev} (h : Calm (i ++ [x])) (hk : y.kind = x.kind) (ht : y.kind = 4 → y.text.size ≠ 0) : Calm (i ++ [y]) := by
  refine ⟨fun e he => ?_, fun j hj => ?_⟩
  · rcases List.mem_append.1 he with he | he
    · exact h.1 e (by simp [he])
    · obtain rfl : e = y := by simpa using he
      exact fun g => ht g.1 g.2
  · have hj2 : j + 1 < (i ++ [x]).length := by simpa using hj
    have := h.2 j hj2
    have hji : j < i.length := by simp at hj; omega
    rw [List.getElem_append_left hji] at this ⊢
    by_cases e : j + 1 < i.length
    · rw [List.getElem_append_left e] at this ⊢; exact this
    · rw [List.getElem_append_right (by omega)] at this ⊢
      simp only [show j + 1 - i.length = 0 by simp at hj; omega, List.getElem_cons_zero] at this ⊢
      rw [hk]; exact this
theorem calm_push {i : List Ev} {x e : Ev} (h : Calm (i ++ [x])) (he : ¬ (e.kind = 4 ∧ e.text.size = 0)) (hn : ¬ (e.kind = 4 ∧ x.kind = 4)) : Calm (i ++ [x] ++ [e]) := by
  refine ⟨fun y hy => ?_, fun j hj => ?_⟩
  · rcases List.mem_append.1 hy with hy | hy
    · exact h.1 y hy
    · obtain rfl : y = e := by simpa using hy
      exact he
  · by_cases ej : j + 1 < (i ++ [x]).length
    · rw [List.getElem_append_left (show j < (i ++ [x]).length by omega), List.getElem_append_left ej]
      exact h.2 j ej
    · have hl : j = i.length := by simp at hj ej; omega
      subst hl
      have e1 : (i ++ [x] ++ [e])[i.length]'(by omega) = x := by simp
      have e2 : (i ++ [x] ++ [e])[i.length + 1]'hj = e := by simp
      rw [e1, e2]
      exact fun g => hn ⟨g.2, g.1⟩
theorem calm_step {out : List Ev} {e : Ev} (h : Calm out) : Calm (mergeStep out e) := by
  by_cases he : e.kind = 4 ∧ e.text.size = 0
  · rw [merge_skip he]; exact h
  · rcases nil_or_last out with rfl | ⟨i, x, rfl⟩
    · rw [merge_nil he]; exact calm_one he
    · by_cases hn : e.kind = 4 ∧ x.kind = 4
      · have h0 : e.text.size ≠ 0 := fun e0 => he ⟨hn.1, e0⟩
        rw [merge_join h0 hn.1 hn.2]; exact calm_swap h rfl fun _ => by simp only [ba_app_size]; omega
      · rw [merge_push he hn]; exact calm_push h he hn
theorem calm_foldl {l out : List Ev} (h : Calm out) : Calm (l.foldl mergeStep out) := by
  induction l generalizing out with
  | nil => exact h
  | cons e l ih => exact ih (calm_step h)
theorem calm_merged (l : List Ev) : Calm (mergedE l) := calm_foldl calm_nil
theorem calm_init {i : List Ev} {x : Ev} (h : Calm (i ++ [x])) : Calm i := by
  refine ⟨fun e he => h.1 e (by simp [he]), fun j hj => ?_⟩
  have := h.2 j (by simp; omega)
  rwa [List.getElem_append_left (by omega), List.getElem_append_left (by omega)] at this
theorem merged_calm {l : List Ev} (h : Calm l) : mergedE l = l := by
  have key : ∀ n (l : List Ev), l.length = n → Calm l → mergedE l = l := by
    intro n
    induction n with
    | zero => intro l hl _; obtain rfl := List.length_eq_zero_iff.1 hl; rfl
    | succ n ih =>
      intro l hl hc
      rcases nil_or_last l with rfl | ⟨i, x, rfl⟩
      · rfl
      · rw [merged_append, ih i (by simpa using hl) (calm_init hc)]
        have hx : ¬ (x.kind = 4 ∧ x.text.size = 0) := hc.1 x (by simp)
        show mergeStep i x = i ++ [x]
        rcases nil_or_last i with rfl | ⟨j, y, rfl⟩
        · exact merge_nil hx
        · refine merge_push hx fun g => ?_
          have := hc.2 j.length (by simp)
          rw [List.getElem_append_left (show j.length < (j ++ [y]).length by simp), List.getElem_append_right (Nat.le_refl _), List.getElem_append_right (by simp)] at this
          simp only [Nat.sub_self, List.getElem_cons_zero, List.length_append, List.length_cons, List.length_nil] at this
          exact this ⟨g.2, by simpa using g.1⟩
  exact key _ l rfl h
theorem merged_twice (l : List Ev) : mergedE (mergedE l) = mergedE l := merged_calm (calm_merged l)
/-! Texts divided. -/
def piecesF (n : Nat) : Nat → ByteArray → List ByteArray
  | 0, _ => []
  | f + 1, s => if s.size = 0 then [] else s.extract 0 (min n s.size) :: piecesF n f (s.extract (min n s.size) s.size)
def pieces (n : Nat) (s : ByteArray) : List ByteArray := piecesF n s.size s
theorem piecesF_more {n : Nat} (hn : 0 < n) : ∀ (f : Nat) (s : ByteArray), s.size ≤ f → piecesF n f s = piecesF n s.size s := by
  intro f
  induction f using Nat.strongRecOn with
  | ind f ih =>
    intro s hs
    rcases Nat.eq_zero_or_pos s.size with h0 | h0
    · rw [h0]; cases f with
      | zero => rfl
      | succ f => show (if s.size = 0 then _ else _) = _; rw [if_pos h0]; rfl
    · obtain ⟨f, rfl⟩ : ∃ f', f = f' + 1 := ⟨f - 1, by omega⟩
      obtain ⟨z, hz⟩ : ∃ z, s.size = z + 1 := ⟨s.size - 1, by omega⟩
      have hr : (s.extract (min n s.size) s.size).size ≤ z := by rw [ba_extract_size _ _ _ (Nat.le_refl _)]; omega
      rw [hz]
      show (if s.size = 0 then _ else _) = (if s.size = 0 then _ else _)
      rw [if_neg (by omega), if_neg (by omega), ih f (by omega) _ (by omega), ih z (by omega) _ hr]
theorem pieces_nil (n : Nat) {s : ByteArray} (h : s.size = 0) : pieces n s = [] := by unfold pieces; rw [h]; rfl
theorem pieces_cons {n : Nat} (hn : 0 < n) {s : ByteArray} (h : 0 < s.size) : pieces n s = s.extract 0 (min n s.size) :: pieces n (s.extract (min n s.size) s.size) := by
  obtain ⟨z, hz⟩ : ∃ z, s.size = z + 1 := ⟨s.size - 1, by omega⟩
  have hr : (s.extract (min n s.size) s.size).size ≤ z := by rw [ba_extract_size _ _ _ (Nat.le_refl _)]; omega
  unfold pieces
  rw [hz]
  show (if s.size = 0 then _ else _) = _
  rw [if_neg (by omega), piecesF_more hn z _ hr, ← hz]
theorem pieces_all {n : Nat} (hn : 0 < n) {P : ByteArray → Prop} : ∀ (k : Nat) (s : ByteArray), s.size = k → (∀ p : ByteArray, 0 < p.size → p.size ≤ n → P p) → ∀ p ∈ pieces n s, P p := by
  intro k
  induction k using Nat.strongRecOn with
  | ind k ih =>
    intro s hs hP p hp
    rcases Nat.eq_zero_or_pos s.size with h0 | h0
    · rw [pieces_nil n h0] at hp; simp at hp
    · rw [pieces_cons hn h0] at hp
      rcases List.mem_cons.1 hp with rfl | hp
      · exact hP _ (by rw [ba_extract_size _ _ _ (by omega)]; omega) (by rw [ba_extract_size _ _ _ (by omega)]; omega)
      · exact ih (s.extract (min n s.size) s.size).size (by rw [ba_extract_size _ _ _ (Nat.le_refl _)]; omega) _ rfl hP p hp
theorem pieces_one {n : Nat} (hn : 0 < n) {s : ByteArray} (h0 : 0 < s.size) (h : s.size ≤ n) : pieces n s = [s] := by
  rw [pieces_cons hn h0, Nat.min_eq_right h, pieces_nil]
  · congr 1
    exact ba_ext (by rw [ba_ext_list _ _ _ (Nat.le_refl _)]; rw [ba_size, List.take_length]; simp)
  · rw [ba_extract_size _ _ _ (Nat.le_refl _)]; omega
theorem pieces_size {n : Nat} (hn : 0 < n) : ∀ (k : Nat) (s : ByteArray), s.size = k → ((pieces n s).map ByteArray.size).sum = s.size := by
  intro k
  induction k using Nat.strongRecOn with
  | ind k ih =>
    intro s hs
    rcases Nat.eq_zero_or_pos s.size with h0 | h0
    · rw [pieces_nil n h0]; simp [h0]
    · rw [pieces_cons hn h0]
      have h2 := ba_extract_size s (min n s.size) s.size (Nat.le_refl _)
      simp only [List.map_cons, List.sum_cons]
      rw [ih (s.extract (min n s.size) s.size).size (by omega) _ rfl, ba_extract_size _ _ _ (by omega), h2]; omega
theorem pieces_len {n : Nat} (hn : 0 < n) : ∀ (k : Nat) (s : ByteArray), s.size = k → (pieces n s).length ≤ s.size := by
  intro k
  induction k using Nat.strongRecOn with
  | ind k ih =>
    intro s hs
    rcases Nat.eq_zero_or_pos s.size with h0 | h0
    · rw [pieces_nil n h0]; simp
    · rw [pieces_cons hn h0]
      have h2 := ba_extract_size s (min n s.size) s.size (Nat.le_refl _)
      have := ih (s.extract (min n s.size) s.size).size (by omega) _ rfl
      simp only [List.length_cons]; omega
def shatterOne (n : Nat) (e : Ev) : List Ev := if e.kind = 4 then (pieces n e.text).map fun s => { e with text := s } else [e]
def shatteredE (l : List Ev) (n : Int) : List Ev := if n < 1 then l else l.flatMap (shatterOne n.toNat)
theorem shattered_zero {l : List Ev} {n : Int} (h : n < 1) : shatteredE l n = l := if_pos h
theorem shattered_pos {l : List Ev} {n : Nat} (h : 0 < n) : shatteredE l n = l.flatMap (shatterOne n) := by unfold shatteredE; rw [if_neg (by omega)]; rfl
theorem shatter_part {n : Nat} {e : Ev} (h : e.kind = 4) : shatterOne n e = (pieces n e.text).map fun s => { e with text := s } := if_pos h
theorem shatter_other {n : Nat} {e : Ev} (h : e.kind ≠ 4) : shatterOne n e = [e] := if_neg h
theorem flat_take {n : Nat} (l : List Ev) (k : Nat) (hk : k < l.length) : (l.take (k + 1)).flatMap (shatterOne n) = (l.take k).flatMap (shatterOne n) ++ shatterOne n l[k] := by
  rw [List.take_succ_eq_append_getElem hk, List.flatMap_append]; simp
theorem shatterOne_bytes {n : Nat} (hn : 0 < n) (e : Ev) : partBytes (shatterOne n e) = partLen e := by
  by_cases h : e.kind = 4
  · rw [shatter_part h]
    unfold partBytes partLen
    rw [if_pos h, List.map_map, ← pieces_size hn _ e.text rfl]
    congr 1
    refine List.map_congr_left fun s _ => ?_
    simp [h]
  · rw [shatter_other h]; simp [partBytes]
theorem shattered_bytes (l : List Ev) (n : Int) : partBytes (shatteredE l n) = partBytes l := by
  by_cases h : n < 1
  · rw [shattered_zero h]
  · obtain ⟨k, rfl⟩ := Int.eq_ofNat_of_zero_le (show 0 ≤ n by omega)
    have hk : 0 < k := by omega
    rw [shattered_pos hk]
    induction l with
    | nil => rfl
    | cons e l ih => rw [List.flatMap_cons, partBytes_append, partBytes_cons, shatterOne_bytes hk, ih]
theorem shatterOne_le {n : Nat} (hn : 0 < n) {e x : Ev} (hx : x ∈ shatterOne n e) : partLen x ≤ n := by
  by_cases h : e.kind = 4
  · rw [shatter_part h] at hx
    obtain ⟨s, hs, rfl⟩ := List.mem_map.1 hx
    refine Nat.le_trans (partLen_le _) ?_
    exact pieces_all hn (P := fun p => p.size ≤ n) _ e.text rfl (fun p _ h => h) s hs
  · rw [shatter_other h] at hx
    obtain rfl : x = e := by simpa using hx
    unfold partLen; rw [if_neg h]; omega
theorem shattered_long {l : List Ev} {n : Nat} (hn : 0 < n) : longestPart (shatteredE l n) ≤ n := by
  rw [shattered_pos hn]
  refine longest_le fun e he => ?_
  obtain ⟨x, _, hx⟩ := List.mem_flatMap.1 he
  exact shatterOne_le hn hx
theorem shatter_again {n : Nat} (hn : 0 < n) {e x : Ev} (hx : x ∈ shatterOne n e) : shatterOne n x = [x] := by
  by_cases h : e.kind = 4
  · rw [shatter_part h] at hx
    obtain ⟨s, hs, rfl⟩ := List.mem_map.1 hx
    have := pieces_all hn (P := fun p => 0 < p.size ∧ p.size ≤ n) _ e.text rfl (fun p h0 h => ⟨h0, h⟩) s hs
    rw [shatter_part (by exact h)]
    simp only [pieces_one hn this.1 this.2]; rfl
  · rw [shatter_other h] at hx
    obtain rfl : x = e := by simpa using hx
    exact shatter_other h
theorem flat_same {l : List Ev} {f : Ev → List Ev} (h : ∀ x ∈ l, f x = [x]) : l.flatMap f = l := by
  induction l with
  | nil => rfl
  | cons e l ih => rw [List.flatMap_cons, h e (by simp), ih fun x hx => h x (by simp [hx])]; rfl
theorem shattered_twice {l : List Ev} {n : Nat} (hn : 0 < n) : shatteredE (shatteredE l n) n = shatteredE l n := by
  rw [shattered_pos hn, shattered_pos hn]
  refine flat_same fun x hx => ?_
  obtain ⟨e, _, hx⟩ := List.mem_flatMap.1 hx
  exact shatter_again hn hx
theorem shattered_len (l : List Ev) (n : Int) : (shatteredE l n).length ≤ l.length + textsLen l := by
  by_cases h : n < 1
  · rw [shattered_zero h]; omega
  · obtain ⟨k, rfl⟩ := Int.eq_ofNat_of_zero_le (show 0 ≤ n by omega)
    have hk : 0 < k := by omega
    rw [shattered_pos hk]
    induction l with
    | nil => simp
    | cons e l ih =>
      rw [List.flatMap_cons, List.length_append]
      have : (shatterOne k e).length ≤ 1 + e.text.size := by
        by_cases he : e.kind = 4
        · rw [shatter_part he, List.length_map]; have := pieces_len hk _ e.text rfl; omega
        · rw [shatter_other he]; simp
      simp only [textsLen, List.map_cons, List.sum_cons, List.length_cons] at ih ⊢; omega
/-- Merging a text's pieces is merging the text. -/
theorem merge_pieces {n : Nat} (hn : 0 < n) : ∀ (k : Nat) (s : ByteArray), s.size = k → ∀ (e : Ev) (out : List Ev), e.kind = 4 → (((pieces n s).map fun p => ({ e with text := p } : Ev)).foldl mergeStep out) = mergeStep out { e with text := s } := by
  intro k
  induction k using Nat.strongRecOn with
  | ind k ih =>
    intro s hs e out he
    rcases Nat.eq_zero_or_pos s.size with h0 | h0
    · rw [pieces_nil n h0, merge_skip (e := { e with text := s }) ⟨he, h0⟩]; rfl
    · rw [pieces_cons hn h0, List.map_cons, List.foldl_cons]
      have h2 := ba_extract_size s (min n s.size) s.size (Nat.le_refl _)
      have h1 := ba_extract_size s 0 (min n s.size) (by omega)
      have hsp := ba_split s (min n s.size) (by omega)
      rw [ih (s.extract (min n s.size) s.size).size (by omega) _ rfl e _ he]
      generalize s.extract 0 (min n s.size) = a at h1 hsp
      generalize s.extract (min n s.size) s.size = b at h2 hsp
      have ha : ¬ (({ e with text := a } : Ev).kind = 4 ∧ ({ e with text := a } : Ev).text.size = 0) := fun g => by have := g.2; simp only at this; omega
      have ha' : a.size ≠ 0 := by omega
      have hs' : ¬ (({ e with text := s } : Ev).kind = 4 ∧ ({ e with text := s } : Ev).text.size = 0) := fun g => by have := g.2; simp only at this; omega
      by_cases hb : b.size = 0
      · obtain rfl : a = s := by rw [← hsp, ba_zero hb]; exact ba_ext (by simp)
        exact merge_skip ⟨he, hb⟩
      · rcases nil_or_last out with rfl | ⟨i, x, rfl⟩
        · rw [merge_nil ha, merge_nil hs']
          have := merge_join (init := []) (x := { e with text := a }) (e := { e with text := b }) hb he he
          simp only [List.nil_append] at this
          rw [this]; simp only [hsp]
        · by_cases hx : x.kind = 4
          · rw [merge_join (e := { e with text := a }) ha' he hx, merge_join (e := { e with text := s }) (by simp only; omega) he hx, merge_join (x := { x with text := x.text ++ a }) (e := { e with text := b }) hb he hx]
            simp only [ba_assoc, hsp]
          · rw [merge_push ha (fun g => hx g.2), merge_push hs' (fun g => hx g.2), merge_join (x := { e with text := a }) (e := { e with text := b }) hb he he]
            simp only [hsp]
theorem merged_shattered (l : List Ev) (n : Int) : mergedE (shatteredE l n) = mergedE l := by
  by_cases h : n < 1
  · rw [shattered_zero h]
  · obtain ⟨k, rfl⟩ := Int.eq_ofNat_of_zero_le (show 0 ≤ n by omega)
    have hk : 0 < k := by omega
    rw [shattered_pos hk]
    have key : ∀ (l out : List Ev), (l.flatMap (shatterOne k)).foldl mergeStep out = l.foldl mergeStep out := by
      intro l
      induction l with
      | nil => intro out; rfl
      | cons e l ih =>
        intro out
        rw [List.flatMap_cons, List.foldl_append, ih, List.foldl_cons]
        congr 1
        by_cases he : e.kind = 4
        · rw [shatter_part he, merge_pieces hk _ e.text rfl e out he]
        · rw [shatter_other he]; rfl
    exact key l []
/-! Prefixes. -/
def textPre (a b : ByteArray) : Prop := a.size ≤ b.size ∧ b.extract 0 a.size = a
def evPre (p q : Ev) : Prop := p = q ∨ (p.kind = 4 ∧ q.kind = 4 ∧ textPre p.text q.text)
/-- What is merged begins with what is merged. -/
def PreM (x y : List Ev) : Prop := x = [] ∨ ∃ i p q r, x = i ++ [p] ∧ y = i ++ q :: r ∧ evPre p q
theorem textPre_iff {a b : ByteArray} : textPre a b ↔ a.data.toList <+: b.data.toList := by
  unfold textPre
  constructor
  · rintro ⟨h1, h2⟩
    have := congrArg (fun z => z.data.toList) h2
    rw [ba_ext_list _ _ _ h1] at this
    rw [← this]; simp [List.take_prefix]
  · intro h
    have hl := h.length_le
    rw [← ba_size, ← ba_size] at hl
    refine ⟨hl, ba_ext ?_⟩
    rw [ba_ext_list _ _ _ hl]
    obtain ⟨t, ht⟩ := h
    rw [← ht, ba_size]; simp
instance (a b : ByteArray) : Decidable (textPre a b) := by unfold textPre; infer_instance
instance (p q : Ev) : Decidable (evPre p q) := by unfold evPre; infer_instance
theorem evPre_trans {p q r : Ev} (h : evPre p q) (k : evPre q r) : evPre p r := by
  rcases h with rfl | ⟨h1, h2, h3⟩
  · exact k
  · rcases k with rfl | ⟨k1, k2, k3⟩
    · exact .inr ⟨h1, h2, h3⟩
    · exact .inr ⟨h1, k2, textPre_iff.2 ((textPre_iff.1 h3).trans (textPre_iff.1 k3))⟩
theorem PreM.refl (x : List Ev) : PreM x x := by
  rcases nil_or_last x with rfl | ⟨i, p, rfl⟩
  · exact .inl rfl
  · exact .inr ⟨i, p, p, [], rfl, rfl, .inl rfl⟩
theorem PreM.trans {x y z : List Ev} (h : PreM x y) (k : PreM y z) : PreM x z := by
  rcases h with rfl | ⟨i, p, q, r, rfl, rfl, hp⟩
  · exact .inl rfl
  · rcases k with h0 | ⟨j, p', q', r', h1, rfl, hp'⟩
    · exact absurd h0 (by simp)
    · rcases nil_or_last r with rfl | ⟨r0, t, rfl⟩
      · obtain ⟨rfl, h2⟩ := List.append_inj' h1 rfl
        obtain rfl : q = p' := by simpa using h2
        exact .inr ⟨i, p, q', r', rfl, rfl, evPre_trans hp hp'⟩
      · have h2 : (i ++ q :: r0) ++ [t] = j ++ [p'] := by simpa using h1
        obtain ⟨rfl, _⟩ := List.append_inj' h2 rfl
        exact .inr ⟨i, p, q, r0 ++ q' :: r', rfl, by simp, hp⟩
theorem PreM.step (out : List Ev) (e : Ev) : PreM out (mergeStep out e) := by
  by_cases he : e.kind = 4 ∧ e.text.size = 0
  · rw [merge_skip he]; exact .refl _
  · rcases nil_or_last out with rfl | ⟨i, x, rfl⟩
    · exact .inl rfl
    · by_cases hn : e.kind = 4 ∧ x.kind = 4
      · have h0 : e.text.size ≠ 0 := fun e0 => he ⟨hn.1, e0⟩
        rw [merge_join h0 hn.1 hn.2]
        exact .inr ⟨i, x, _, [], rfl, rfl, .inr ⟨hn.2, hn.2, textPre_iff.2 (by simp only [ba_app]; exact List.prefix_append _ _)⟩⟩
      · rw [merge_push he hn]
        exact .inr ⟨i, x, x, [e], rfl, by simp, .inl rfl⟩
theorem PreM.foldl (l out : List Ev) : PreM out (l.foldl mergeStep out) := by
  induction l generalizing out with
  | nil => exact .refl _
  | cons e l ih => exact (PreM.step out e).trans (ih _)
def preE (a b : List Ev) : Prop := PreM (mergedE a) (mergedE b)
theorem preE.refl (a : List Ev) : preE a a := PreM.refl _
theorem preE.take (a : List Ev) (k : Nat) : preE (a.take k) a := by
  unfold preE
  conv => rhs; rw [← List.take_append_drop k a]
  rw [merged_append]; exact PreM.foldl _ _
theorem preE.trans {a b c : List Ev} (h : preE a b) (k : preE b c) : preE a c := PreM.trans h k
/-- As the reference decides it. -/
def preMB (x y : List Ev) : Bool :=
  if h : x.length = 0 then true
  else if h2 : x.length > y.length then false
  else decide (x.take (x.length - 1) = y.take (x.length - 1)) && decide (evPre (x[x.length - 1]'(by omega)) (y[x.length - 1]'(by omega)))
theorem preMB_iff {x y : List Ev} : preMB x y = true ↔ PreM x y := by
  unfold preMB
  rcases nil_or_last x with rfl | ⟨i, p, rfl⟩
  · simp [PreM]
  · have hl : (i ++ [p]).length = i.length + 1 := by simp
    rw [dif_neg (by omega)]
    by_cases h2 : (i ++ [p]).length > y.length
    · rw [dif_pos h2]
      constructor
      · intro h; cases h
      · rintro (h | ⟨j, p', q, r, h1, rfl, _⟩)
        · simp at h
        · obtain ⟨rfl, _⟩ := List.append_inj' h1 rfl
          simp at h2
    · rw [dif_neg h2]
      have hi : i.length < y.length := by omega
      simp only [Bool.and_eq_true, decide_eq_true_eq, hl, Nat.add_sub_cancel]
      rw [List.take_left' rfl, List.getElem_append_right (Nat.le_refl _)]
      simp only [Nat.sub_self, List.getElem_cons_zero]
      constructor
      · rintro ⟨h3, h4⟩
        refine .inr ⟨i, p, y[i.length], y.drop (i.length + 1), rfl, ?_, h4⟩
        conv => lhs; rw [← List.take_append_drop i.length y, List.drop_eq_getElem_cons hi]
        rw [← h3]
      · rintro (h | ⟨j, p', q, r, h1, rfl, h4⟩)
        · simp at h
        · obtain ⟨rfl, h5⟩ := List.append_inj' h1 rfl
          obtain rfl : p = p' := by simpa using h5
          refine ⟨by simp, ?_⟩
          rw [List.getElem_append_right (Nat.le_refl _)]
          simpa using h4
def preB (a b : List Ev) : Bool := preMB (mergedE a) (mergedE b)
theorem preB_iff {a b : List Ev} : preB a b = true ↔ preE a b := preMB_iff
end Go.Proofs.YtcnpdcmdnmfnaaaGreat.Num
