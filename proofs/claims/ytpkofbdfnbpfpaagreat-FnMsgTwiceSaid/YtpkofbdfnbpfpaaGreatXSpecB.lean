/-
  Several texts in one: MergeMath MsgModel EvSame MergeS PartS MsgPay MsgFacts MsgLong MsgAll Append ShatterS MsgRead PrefixS.
-/
import Derived.Test.YtpkofbdfnbpfpaaGreatXSpecA
import Derived.Test.YtpkofbdfnbpfpaaGreatXUtf
import Derived.Test.YtpkofbdfnbpfpaaGreatRawBase
import Derived.Deep.QuietTactic
import Derived.BigQuiet
import Derived.WideShapes
import Derived.Laws.Concat
import Derived.Deep.AppendLies
import Derived.Deep.DeepCutAuto
import Derived.Deep.RegionHeld
import Derived.Deep.LoopGhost
import Derived.Test.YtpkofbdfnbpfpaaGreatProg
import Derived.Laws.OwnMore
import Derived.Deep.RegionHeld3

/-
  Plain facts on lists of events: merging adjacent texts, dividing texts, prefixes, lengths. For any program.
-/
namespace Go.Proofs.YtpkofbdfnbpfpaaGreat.Num
open Go.RowKit Go.Proofs
set_option linter.unusedVariables false

theorem ba_ext {a b : ByteArray} (h : a.data.toList = b.data.toList) : a = b := by
  obtain ⟨⟨x⟩⟩ := a; obtain ⟨⟨y⟩⟩ := b; simp only at h; rw [h]
theorem ba_size (a : ByteArray) : a.size = a.data.toList.length := by rw [Array.length_toList]; rfl
theorem ba_zero {a : ByteArray} (h : a.size = 0) : a = ⟨#[]⟩ := ba_ext (by rw [ba_size] at h; exact List.length_eq_zero_iff.1 h)
theorem ba_app (a b : ByteArray) : (a ++ b).data.toList = a.data.toList ++ b.data.toList := by simp
theorem ba_app_size (a b : ByteArray) : (a ++ b).size = a.size + b.size := by rw [ba_size, ba_app, List.length_append, ← ba_size, ← ba_size]
theorem ba_assoc (a b c : ByteArray) : a ++ b ++ c = a ++ (b ++ c) := ba_ext (by simp)
theorem ba_ext_list (s : ByteArray) (i j : Nat) (hj : j ≤ s.size) : (s.extract i j).data.toList = (s.data.toList.take j).drop i := by
  rw [ByteArray.data_extract]
  simp [Array.toList_extract, List.extract_eq_take_drop, List.drop_take]
theorem ba_extract_size (s : ByteArray) (i j : Nat) (hj : j ≤ s.size) : (s.extract i j).size = j - i := by
  rw [ba_size, ba_ext_list _ _ _ hj, List.length_drop, List.length_take, ← ba_size]; omega

def part (e : Ev) : Bool := decide (e.kind = 4)
def emptyPart (e : Ev) : Bool := decide (e.kind = 4 ∧ e.text.size = 0)
/-- One event more, merged onto what is there. -/
def mergeStep (out : List Ev) (e : Ev) : List Ev :=
  if emptyPart e = true then out
  else match out.getLast? with
    | none => [e]
    | some x => if e.kind = 4 ∧ x.kind = 4 then out.dropLast ++ [{ x with text := x.text ++ e.text }] else out ++ [e]
def mergedE (l : List Ev) : List Ev := l.foldl mergeStep []
theorem merge_skip {out : List Ev} {e : Ev} (h : e.kind = 4 ∧ e.text.size = 0) : mergeStep out e = out := by unfold mergeStep emptyPart; rw [if_pos (decide_eq_true h)]
theorem merge_nil {e : Ev} (h : ¬ (e.kind = 4 ∧ e.text.size = 0)) : mergeStep [] e = [e] := by unfold mergeStep emptyPart; rw [if_neg (by simpa using h)]; rfl
theorem merge_join {init : List Ev} {x e : Ev} (h : e.text.size ≠ 0) (he : e.kind = 4) (hx : x.kind = 4) : mergeStep (init ++ [x]) e = init ++ [{ x with text := x.text ++ e.text }] := by
  unfold mergeStep emptyPart
  rw [if_neg (by simp [h])]
  simp [he, hx]
theorem merge_push {init : List Ev} {x e : Ev} (h : ¬ (e.kind = 4 ∧ e.text.size = 0)) (hn : ¬ (e.kind = 4 ∧ x.kind = 4)) : mergeStep (init ++ [x]) e = init ++ [x] ++ [e] := by
  unfold mergeStep emptyPart
  rw [if_neg (by simpa using h)]
  simp only [List.getLast?_concat]
  rw [if_neg hn]
theorem nil_or_last (l : List Ev) : l = [] ∨ ∃ i x, l = i ++ [x] := by
  rcases List.eq_nil_or_concat l with h | ⟨i, x, h⟩
  · exact .inl h
  · exact .inr ⟨i, x, by simpa using h⟩
theorem merged_take (l : List Ev) (k : Nat) (hk : k < l.length) : mergedE (l.take (k + 1)) = mergeStep (mergedE (l.take k)) l[k] := by
  unfold mergedE; rw [List.take_succ_eq_append_getElem hk, List.foldl_append]; rfl
theorem merged_append (a b : List Ev) : mergedE (a ++ b) = b.foldl mergeStep (mergedE a) := by unfold mergedE; rw [List.foldl_append]
theorem mergeStep_len (out : List Ev) (e : Ev) : (mergeStep out e).length ≤ out.length + 1 := by
  by_cases h : e.kind = 4 ∧ e.text.size = 0
  · rw [merge_skip h]; omega
  · rcases nil_or_last out with rfl | ⟨i, x, rfl⟩
    · rw [merge_nil h]; simp
    · by_cases hn : e.kind = 4 ∧ x.kind = 4
      · rw [merge_join (fun e0 => h ⟨hn.1, e0⟩) hn.1 hn.2]; simp
      · rw [merge_push h hn]; simp
theorem merged_len (l : List Ev) : (mergedE l).length ≤ l.length := by
  have key : ∀ (l out : List Ev), (l.foldl mergeStep out).length ≤ out.length + l.length := by
    intro l
    induction l with
    | nil => intro out; simp
    | cons e l ih => intro out; simp only [List.foldl_cons, List.length_cons]; have := ih (mergeStep out e); have := mergeStep_len out e; omega
  have := key l []; simpa [mergedE] using this
/-- The total and the greatest length of the texts. -/
def partLen (e : Ev) : Nat := if e.kind = 4 then e.text.size else 0
def partBytes (l : List Ev) : Nat := (l.map partLen).sum
def longestPart (l : List Ev) : Nat := l.foldl (fun n e => max n (partLen e)) 0
theorem partBytes_append (a b : List Ev) : partBytes (a ++ b) = partBytes a + partBytes b := by simp [partBytes]
theorem partBytes_cons (e : Ev) (b : List Ev) : partBytes (e :: b) = partLen e + partBytes b := by simp [partBytes]
theorem partLen_le (e : Ev) : partLen e ≤ e.text.size := by unfold partLen; split <;> omega
theorem foldl_max_le {l : List Ev} {n N : Nat} (hn : n ≤ N) (h : ∀ e ∈ l, partLen e ≤ N) : l.foldl (fun n e => max n (partLen e)) n ≤ N := by
  induction l generalizing n with
  | nil => exact hn
  | cons e l ih => exact ih (Nat.max_le.2 ⟨hn, h e (by simp)⟩) fun x hx => h x (by simp [hx])
theorem longest_le {l : List Ev} {N : Nat} (h : ∀ e ∈ l, partLen e ≤ N) : longestPart l ≤ N := foldl_max_le (Nat.zero_le _) h
theorem mergeStep_bytes (out : List Ev) (e : Ev) : partBytes (mergeStep out e) = partBytes out + partLen e := by
  by_cases h : e.kind = 4 ∧ e.text.size = 0
  · rw [merge_skip h]; unfold partLen; rw [if_pos h.1, h.2]; omega
  · rcases nil_or_last out with rfl | ⟨i, x, rfl⟩
    · rw [merge_nil h]; simp [partBytes]
    · by_cases hn : e.kind = 4 ∧ x.kind = 4
      · rw [merge_join (fun e0 => h ⟨hn.1, e0⟩) hn.1 hn.2, partBytes_append, partBytes_append]
        simp only [partBytes, List.map_cons, List.map_nil, List.sum_cons, List.sum_nil, partLen, hn.1, hn.2, if_true, ba_app_size]; omega
      · rw [merge_push h hn, partBytes_append]; simp [partBytes]
theorem merged_bytes (l : List Ev) : partBytes (mergedE l) = partBytes l := by
  have key : ∀ (l out : List Ev), partBytes (l.foldl mergeStep out) = partBytes out + partBytes l := by
    intro l
    induction l with
    | nil => intro out; simp [partBytes]
    | cons e l ih => intro out; simp only [List.foldl_cons]; rw [ih, mergeStep_bytes, partBytes_cons]; omega
  have := key l []; simpa [mergedE, partBytes] using this
/-- No two adjacent texts, no empty one. -/
def Calm (l : List Ev) : Prop := (∀ e ∈ l, ¬ (e.kind = 4 ∧ e.text.size = 0)) ∧ ∀ i (h : i + 1 < l.length), ¬ (l[i].kind = 4 ∧ l[i + 1].kind = 4)
theorem calm_nil : Calm [] := ⟨by simp, fun i h => by simp at h⟩
theorem calm_one {e : Ev} (h : ¬ (e.kind = 4 ∧ e.text.size = 0)) : Calm [e] := ⟨by simpa using h, fun i hi => by simp at hi⟩
theorem calm_swap {i : List Ev} {x y : Ev} (h : Calm (i ++ [x])) (hk : y.kind = x.kind) (ht : y.kind = 4 → y.text.size ≠ 0) : Calm (i ++ [y]) := by
  refine ⟨fun e he => ?_, fun j hj => ?_⟩
  · rcases List.mem_append.1 he with he | he
    · exact h.1 e (by simp [he])
    · obtain rfl : e = y := by simpa using he
      exact fun g => ht g.1 g.2
  · have hj2 : j + 1 < (i ++ [x]).length := by simpa using hj
    have := h.2 j hj2
    have hji : j < i.length := by simp at hj; omega
    rw [List.getElem_append_left hji] at this ⊢
    by_cases e : j + 1 < i.length
    · rw [List.getElem_append_left e] at this ⊢; exact this
    · rw [List.getElem_append_right (by omega)] at this ⊢
      simp only [show j + 1 - i.length = 0 by simp at hj; omega, List.getElem_cons_zero] at this ⊢
      rw [hk]; exact this
theorem calm_push {i : List Ev} {x e : Ev} (h : Calm (i ++ [x])) (he : ¬ (e.kind = 4 ∧ e.text.size = 0)) (hn : ¬ (e.kind = 4 ∧ x.kind = 4)) : Calm (i ++ [x] ++ [e]) := by
  refine ⟨fun y hy => ?_, fun j hj => ?_⟩
  · rcases List.mem_append.1 hy with hy | hy
    · exact h.1 y hy
    · obtain rfl : y = e := by simpa using hy
      exact he
  · by_cases ej : j + 1 < (i ++ [x]).length
    · rw [List.getElem_append_left (show j < (i ++ [x]).length by omega), List.getElem_append_left ej]
      exact h.2 j ej
    · have hl : j = i.length := by simp at hj ej; omega
      subst hl
      have e1 : (i ++ [x] ++ [e])[i.length]'(by omega) = x := by simp
      have e2 : (i ++ [x] ++ [e])[i.length + 1]'hj = e := by simp
      rw [e1, e2]
      exact fun g => hn ⟨g.2, g.1⟩
theorem calm_step {out : List Ev} {e : Ev} (h : Calm out) : Calm (mergeStep out e) := by
  by_cases he : e.kind = 4 ∧ e.text.size = 0
  · rw [merge_skip he]; exact h
  · rcases nil_or_last out with rfl | ⟨i, x, rfl⟩
    · rw [merge_nil he]; exact calm_one he
    · by_cases hn : e.kind = 4 ∧ x.kind = 4
      · have h0 : e.text.size ≠ 0 := fun e0 => he ⟨hn.1, e0⟩
        rw [merge_join h0 hn.1 hn.2]; exact calm_swap h rfl fun _ => by simp only [ba_app_size]; omega
      · rw [merge_push he hn]; exact calm_push h he hn
theorem calm_foldl {l out : List Ev} (h : Calm out) : Calm (l.foldl mergeStep out) := by
  induction l generalizing out with
  | nil => exact h
  | cons e l ih => exact ih (calm_step h)
theorem calm_merged (l : List Ev) : Calm (mergedE l) := calm_foldl calm_nil
theorem calm_init {i : List Ev} {x : Ev} (h : Calm (i ++ [x])) : Calm i := by
  refine ⟨fun e he => h.1 e (by simp [he]), fun j hj => ?_⟩
  have := h.2 j (by simp; omega)
  rwa [List.getElem_append_left (by omega), List.getElem_append_left (by omega)] at this
theorem merged_calm {l : List Ev} (h : Calm l) : mergedE l = l := by
  have key : ∀ n (l : List Ev), l.length = n → Calm l → mergedE l = l := by
    intro n
    induction n with
    | zero => intro l hl _; obtain rfl := List.length_eq_zero_iff.1 hl; rfl
    | succ n ih =>
      intro l hl hc
      rcases nil_or_last l with rfl | ⟨i, x, rfl⟩
      · rfl
      · rw [merged_append, ih i (by simpa using hl) (calm_init hc)]
        have hx : ¬ (x.kind = 4 ∧ x.text.size = 0) := hc.1 x (by simp)
        show mergeStep i x = i ++ [x]
        rcases nil_or_last i with rfl | ⟨j, y, rfl⟩
        · exact merge_nil hx
        · refine merge_push hx fun g => ?_
          have := hc.2 j.length (by simp)
          rw [List.getElem_append_left (show j.length < (j ++ [y]).length by simp), List.getElem_append_right (Nat.le_refl _), List.getElem_append_right (by simp)] at this
          simp only [Nat.sub_self, List.getElem_cons_zero, List.length_append, List.length_cons, List.length_nil] at this
          exact this ⟨g.2, by simpa using g.1⟩
  exact key _ l rfl h
theorem merged_twice (l : List Ev) : mergedE (mergedE l) = mergedE l := merged_calm (calm_merged l)
/-! Texts divided. -/
def piecesF (n : Nat) : Nat → ByteArray → List ByteArray
  | 0, _ => []
  | f + 1, s => if s.size = 0 then [] else s.extract 0 (min n s.size) :: piecesF n f (s.extract (min n s.size) s.size)
def pieces (n : Nat) (s : ByteArray) : List ByteArray := piecesF n s.size s
theorem piecesF_more {n : Nat} (hn : 0 < n) : ∀ (f : Nat) (s : ByteArray), s.size ≤ f → piecesF n f s = piecesF n s.size s := by
  intro f
  induction f using Nat.strongRecOn with
  | ind f ih =>
    intro s hs
    rcases Nat.eq_zero_or_pos s.size with h0 | h0
    · rw [h0]; cases f with
      | zero => rfl
      | succ f => show (if s.size = 0 then _ else _) = _; rw [if_pos h0]; rfl
    · obtain ⟨f, rfl⟩ : ∃ f', f = f' + 1 := ⟨f - 1, by omega⟩
      obtain ⟨z, hz⟩ : ∃ z, s.size = z + 1 := ⟨s.size - 1, by omega⟩
      have hr : (s.extract (min n s.size) s.size).size ≤ z := by rw [ba_extract_size _ _ _ (Nat.le_refl _)]; omega
      rw [hz]
      show (if s.size = 0 then _ else _) = (if s.size = 0 then _ else _)
      rw [if_neg (by omega), if_neg (by omega), ih f (by omega) _ (by omega), ih z (by omega) _ hr]
theorem pieces_nil (n : Nat) {s : ByteArray} (h : s.size = 0) : pieces n s = [] := by unfold pieces; rw [h]; rfl
theorem pieces_cons {n : Nat} (hn : 0 < n) {s : ByteArray} (h : 0 < s.size) : pieces n s = s.extract 0 (min n s.size) :: pieces n (s.extract (min n s.size) s.size) := by
  obtain ⟨z, hz⟩ : ∃ z, s.size = z + 1 := ⟨s.size - 1, by omega⟩
  have hr : (s.extract (min n s.size) s.size).size ≤ z := by rw [ba_extract_size _ _ _ (Nat.le_refl _)]; omega
  unfold pieces
  rw [hz]
  show (if s.size = 0 then _ else _) = _
  rw [if_neg (by omega), piecesF_more hn z _ hr, ← hz]
theorem pieces_all {n : Nat} (hn : 0 < n) {P : ByteArray → Prop} : ∀ (k : Nat) (s : ByteArray), s.size = k → (∀ p : ByteArray, 0 < p.size → p.size ≤ n → P p) → ∀ p ∈ pieces n s, P p := by
  intro k
  induction k using Nat.strongRecOn with
  | ind k ih =>
    intro s hs hP p hp
    rcases Nat.eq_zero_or_pos s.size with h0 | h0
    · rw [pieces_nil n h0] at hp; simp at hp
    · rw [pieces_cons hn h0] at hp
      rcases List.mem_cons.1 hp with rfl | hp
      · exact hP _ (by rw [ba_extract_size _ _ _ (by omega)]; omega) (by rw [ba_extract_size _ _ _ (by omega)]; omega)
      · exact ih (s.extract (min n s.size) s.size).size (by rw [ba_extract_size _ _ _ (Nat.le_refl _)]; omega) _ rfl hP p hp
theorem pieces_size {n : Nat} (hn : 0 < n) : ∀ (k : Nat) (s : ByteArray), s.size = k → ((pieces n s).map ByteArray.size).sum = s.size := by
  intro k
  induction k using Nat.strongRecOn with
  | ind k ih =>
    intro s hs
    rcases Nat.eq_zero_or_pos s.size with h0 | h0
    · rw [pieces_nil n h0]; simp [h0]
    · rw [pieces_cons hn h0]
      have h2 := ba_extract_size s (min n s.size) s.size (Nat.le_refl _)
      simp only [List.map_cons, List.sum_cons]
      rw [ih (s.extract (min n s.size) s.size).size (by omega) _ rfl, ba_extract_size _ _ _ (by omega), h2]; omega
theorem pieces_len {n : Nat} (hn : 0 < n) : ∀ (k : Nat) (s : ByteArray), s.size = k → (pieces n s).length ≤ s.size := by
  intro k
  induction k using Nat.strongRecOn with
  | ind k ih =>
    intro s hs
    rcases Nat.eq_zero_or_pos s.size with h0 | h0
    · rw [pieces_nil n h0]; simp
    · rw [pieces_cons hn h0]
      have h2 := ba_extract_size s (min n s.size) s.size (Nat.le_refl _)
      have := ih (s.extract (min n s.size) s.size).size (by omega) _ rfl
      simp only [List.length_cons]; omega
def shatterOne (n : Nat) (e : Ev) : List Ev := if e.kind = 4 then (pieces n e.text).map fun s => { e with text := s } else [e]
def shatteredE (l : List Ev) (n : Int) : List Ev := if n < 1 then l else l.flatMap (shatterOne n.toNat)
theorem shattered_zero {l : List Ev} {n : Int} (h : n < 1) : shatteredE l n = l := if_pos h
theorem shattered_pos {l : List Ev} {n : Nat} (h : 0 < n) : shatteredE l n = l.flatMap (shatterOne n) := by unfold shatteredE; rw [if_neg (by omega)]; rfl
theorem shatter_part {n : Nat} {e : Ev} (h : e.kind = 4) : shatterOne n e = (pieces n e.text).map fun s => { e with text := s } := if_pos h
theorem shatter_other {n : Nat} {e : Ev} (h : e.kind ≠ 4) : shatterOne n e = [e] := if_neg h
theorem shatterOne_bytes {n : Nat} (hn : 0 < n) (e : Ev) : partBytes (shatterOne n e) = partLen e := by
  by_cases h : e.kind = 4
  · rw [shatter_part h]
    unfold partBytes partLen
    rw [if_pos h, List.map_map, ← pieces_size hn _ e.text rfl]
    congr 1
    refine List.map_congr_left fun s _ => ?_
    simp [h]
  · rw [shatter_other h]; simp [partBytes]
theorem shattered_bytes (l : List Ev) (n : Int) : partBytes (shatteredE l n) = partBytes l := by
  by_cases h : n < 1
  · rw [shattered_zero h]
  · obtain ⟨k, rfl⟩ := Int.eq_ofNat_of_zero_le (show 0 ≤ n by omega)
    have hk : 0 < k := by omega
    rw [shattered_pos hk]
    induction l with
    | nil => rfl
    | cons e l ih => rw [List.flatMap_cons, partBytes_append, partBytes_cons, shatterOne_bytes hk, ih]
theorem shatterOne_le {n : Nat} (hn : 0 < n) {e x : Ev} (hx : x ∈ shatterOne n e) : partLen x ≤ n := by
  by_cases h : e.kind = 4
  · rw [shatter_part h] at hx
    obtain ⟨s, hs, rfl⟩ := List.mem_map.1 hx
    refine Nat.le_trans (partLen_le _) ?_
    exact pieces_all hn (P := fun p => p.size ≤ n) _ e.text rfl (fun p _ h => h) s hs
  · rw [shatter_other h] at hx
    obtain rfl : x = e := by simpa using hx
    unfold partLen; rw [if_neg h]; omega
theorem shattered_long {l : List Ev} {n : Nat} (hn : 0 < n) : longestPart (shatteredE l n) ≤ n := by
  rw [shattered_pos hn]
  refine longest_le fun e he => ?_
  obtain ⟨x, _, hx⟩ := List.mem_flatMap.1 he
  exact shatterOne_le hn hx
theorem shattered_len (l : List Ev) (n : Int) : (shatteredE l n).length ≤ l.length + textsLen l := by
  by_cases h : n < 1
  · rw [shattered_zero h]; omega
  · obtain ⟨k, rfl⟩ := Int.eq_ofNat_of_zero_le (show 0 ≤ n by omega)
    have hk : 0 < k := by omega
    rw [shattered_pos hk]
    induction l with
    | nil => simp
    | cons e l ih =>
      rw [List.flatMap_cons, List.length_append]
      have : (shatterOne k e).length ≤ 1 + e.text.size := by
        by_cases he : e.kind = 4
        · rw [shatter_part he, List.length_map]; have := pieces_len hk _ e.text rfl; omega
        · rw [shatter_other he]; simp
      simp only [textsLen, List.map_cons, List.sum_cons, List.length_cons] at ih ⊢; omega
/-! Prefixes. -/
def textPre (a b : ByteArray) : Prop := a.size ≤ b.size ∧ b.extract 0 a.size = a
def evPre (p q : Ev) : Prop := p = q ∨ (p.kind = 4 ∧ q.kind = 4 ∧ textPre p.text q.text)
/-- What is merged begins with what is merged. -/
def PreM (x y : List Ev) : Prop := x = [] ∨ ∃ i p q r, x = i ++ [p] ∧ y = i ++ q :: r ∧ evPre p q
theorem textPre_iff {a b : ByteArray} : textPre a b ↔ a.data.toList <+: b.data.toList := by
  unfold textPre
  constructor
  · rintro ⟨h1, h2⟩
    have := congrArg (fun z => z.data.toList) h2
    rw [ba_ext_list _ _ _ h1] at this
    rw [← this]; simp [List.take_prefix]
  · intro h
    have hl := h.length_le
    rw [← ba_size, ← ba_size] at hl
    refine ⟨hl, ba_ext ?_⟩
    rw [ba_ext_list _ _ _ hl]
    obtain ⟨t, ht⟩ := h
    rw [← ht, ba_size]; simp
instance (a b : ByteArray) : Decidable (textPre a b) := by unfold textPre; infer_instance
instance (p q : Ev) : Decidable (evPre p q) := by unfold evPre; infer_instance
theorem evPre_trans {p q r : Ev} (h : evPre p q) (k : evPre q r) : evPre p r := by
  rcases h with rfl | ⟨h1, h2, h3⟩
  · exact k
  · rcases k with rfl | ⟨k1, k2, k3⟩
    · exact .inr ⟨h1, h2, h3⟩
    · exact .inr ⟨h1, k2, textPre_iff.2 ((textPre_iff.1 h3).trans (textPre_iff.1 k3))⟩
theorem PreM.refl (x : List Ev) : PreM x x := by
  rcases nil_or_last x with rfl | ⟨i, p, rfl⟩
  · exact .inl rfl
  · exact .inr ⟨i, p, p, [], rfl, rfl, .inl rfl⟩
theorem PreM.trans {x y z : List Ev} (h : PreM x y) (k : PreM y z) : PreM x z := by
  rcases h with rfl | ⟨i, p, q, r, rfl, rfl, hp⟩
  · exact .inl rfl
  · rcases k with h0 | ⟨j, p', q', r', h1, rfl, hp'⟩
    · exact absurd h0 (by simp)
    · rcases nil_or_last r with rfl | ⟨r0, t, rfl⟩
      · obtain ⟨rfl, h2⟩ := List.append_inj' h1 rfl
        obtain rfl : q = p' := by simpa using h2
        exact .inr ⟨i, p, q', r', rfl, rfl, evPre_trans hp hp'⟩
      · have h2 : (i ++ q :: r0) ++ [t] = j ++ [p'] := by simpa using h1
        obtain ⟨rfl, _⟩ := List.append_inj' h2 rfl
        exact .inr ⟨i, p, q, r0 ++ q' :: r', rfl, by simp, hp⟩
theorem PreM.step (out : List Ev) (e : Ev) : PreM out (mergeStep out e) := by
  by_cases he : e.kind = 4 ∧ e.text.size = 0
  · rw [merge_skip he]; exact .refl _
  · rcases nil_or_last out with rfl | ⟨i, x, rfl⟩
    · exact .inl rfl
    · by_cases hn : e.kind = 4 ∧ x.kind = 4
      · have h0 : e.text.size ≠ 0 := fun e0 => he ⟨hn.1, e0⟩
        rw [merge_join h0 hn.1 hn.2]
        exact .inr ⟨i, x, _, [], rfl, rfl, .inr ⟨hn.2, hn.2, textPre_iff.2 (by simp only [ba_app]; exact List.prefix_append _ _)⟩⟩
      · rw [merge_push he hn]
        exact .inr ⟨i, x, x, [e], rfl, by simp, .inl rfl⟩
theorem PreM.foldl (l out : List Ev) : PreM out (l.foldl mergeStep out) := by
  induction l generalizing out with
  | nil => exact .refl _
  | cons e l ih => exact (PreM.step out e).trans (ih _)
def preE (a b : List Ev) : Prop := PreM (mergedE a) (mergedE b)
theorem preE.refl (a : List Ev) : preE a a := PreM.refl _
theorem preE.take (a : List Ev) (k : Nat) : preE (a.take k) a := by
  unfold preE
  conv => rhs; rw [← List.take_append_drop k a]
  rw [merged_append]; exact PreM.foldl _ _
theorem preE.trans {a b c : List Ev} (h : preE a b) (k : preE b c) : preE a c := PreM.trans h k
/-- As the reference decides it. -/
def preMB (x y : List Ev) : Bool :=
  if h : x.length = 0 then true
  else if h2 : x.length > y.length then false
  else decide (x.take (x.length - 1) = y.take (x.length - 1)) && decide (evPre (x[x.length - 1]'(by omega)) (y[x.length - 1]'(by omega)))
theorem preMB_iff {x y : List Ev} : preMB x y = true ↔ PreM x y := by
  unfold preMB
  rcases nil_or_last x with rfl | ⟨i, p, rfl⟩
  · simp [PreM]
  · have hl : (i ++ [p]).length = i.length + 1 := by simp
    rw [dif_neg (by omega)]
    by_cases h2 : (i ++ [p]).length > y.length
    · rw [dif_pos h2]
      constructor
      · intro h; cases h
      · rintro (h | ⟨j, p', q, r, h1, rfl, _⟩)
        · simp at h
        · obtain ⟨rfl, _⟩ := List.append_inj' h1 rfl
          simp at h2
    · rw [dif_neg h2]
      have hi : i.length < y.length := by omega
      simp only [Bool.and_eq_true, decide_eq_true_eq, hl, Nat.add_sub_cancel]
      rw [List.take_left' rfl, List.getElem_append_right (Nat.le_refl _)]
      simp only [Nat.sub_self, List.getElem_cons_zero]
      constructor
      · rintro ⟨h3, h4⟩
        refine .inr ⟨i, p, y[i.length], y.drop (i.length + 1), rfl, ?_, h4⟩
        conv => lhs; rw [← List.take_append_drop i.length y, List.drop_eq_getElem_cons hi]
        rw [← h3]
      · rintro (h | ⟨j, p', q, r, h1, rfl, h4⟩)
        · simp at h
        · obtain ⟨rfl, h5⟩ := List.append_inj' h1 rfl
          obtain rfl : p = p' := by simpa using h5
          refine ⟨by simp, ?_⟩
          rw [List.getElem_append_right (Nat.le_refl _)]
          simpa using h4
def preB (a b : List Ev) : Bool := preMB (mergedE a) (mergedE b)
theorem preB_iff {a b : List Ev} : preB a b = true ↔ preE a b := preMB_iff
end Go.Proofs.YtpkofbdfnbpfpaaGreat.Num


/-
  A message that is read, as plain functions: a text, a length, a field, all fields (by how many may still come), the whole. For any program.
-/
namespace Go.Proofs.YtpkofbdfnbpfpaaGreat.Num
open Go.RowKit Go.Proofs
set_option linter.unusedVariables false

def openE (f n : Int) : Ev := ⟨3, f, 0, n, ⟨#[]⟩, 0, 0⟩
def partE (t : ByteArray) : Ev := ⟨4, 0, 0, 0, t, 0, 0⟩
def shutE : Ev := ⟨5, 0, 0, 0, ⟨#[]⟩, 0, 0⟩
def downE (f n : Int) : Ev := ⟨6, f, 0, n, ⟨#[]⟩, 0, 0⟩
def upE : Ev := ⟨7, 0, 0, 0, ⟨#[]⟩, 0, 0⟩
/-- Of n bytes from p on, those that are there. -/
def thereB (s : ByteArray) (p n : Nat) : ByteArray := s.extract p (min s.size (p + n))
def utfOf (k : Int) (t : ByteArray) : Utf.St × Option Nat := if k = 6 then Utf.run Utf.z t.data.toList else (Utf.z, none)
def frontB (t : ByteArray) : Option Nat → ByteArray
  | some b => t.extract 0 b
  | none => t
def rdPart (t : ByteArray) (r : RdM) : RdM := if t.size = 0 then r else r.tell (partE t)
def rdEnd (s : ByteArray) (n : Nat) (t : ByteArray) (q : Utf.St × Option Nat) (r : RdM) : RdM :=
  match q.2 with
  | some b => r.bad 5 ((r.place : Int) + b)
  | none => if t.size < n then r.bad 10 s.size else if 0 < q.1.1 then r.bad 5 ((r.place + n : Nat) : Int) else (r.to (r.place + n)).tell shutE
/-- A text or bytes. -/
def rdPayload (s : ByteArray) (f : RF) (n : Nat) (r : RdM) : RdM :=
  rdEnd s n (thereB s r.place n) (utfOf f.2.1 (thereB s r.place n)) (rdPart (frontB (thereB s r.place n) (utfOf f.2.1 (thereB s r.place n)).2) (r.tell (openE f.1 n)))
/-- A packed run up to a place. -/
def rdRun (s : ByteArray) (f : RF) (E : Int) : Nat → RdM → RdM
  | 0, r => r
  | n + 1, r => if (r.place : Int) < E ∧ r.fail.kind = 0 then rdRun s f E n (rdNum s f (wireR f.2.1) E r) else r
/-- What a length tells of; M reads a message. -/
def rdBody (M : Int → Int → Int → RdM → RdM) (n : Nat) (s : ByteArray) (D : Int) (f : RF) (start : Nat) (m : Nat) (deep : Int) (r : RdM) : RdM :=
  if f.1 = 0 then (if s.size - r.place < m then r.bad 10 s.size else r.to (r.place + m))
  else if f.2.1 = 8 then
    (if D ≤ deep then r.bad 6 start
     else if (M f.2.2.2.2 ((r.place + m : Nat) : Int) (deep + 1) (r.tell (downE f.1 m))).fail.kind = 0 then (M f.2.2.2.2 ((r.place + m : Nat) : Int) (deep + 1) (r.tell (downE f.1 m))).tell upE
     else M f.2.2.2.2 ((r.place + m : Nat) : Int) (deep + 1) (r.tell (downE f.1 m)))
  else if f.2.1 = 6 ∨ f.2.1 = 7 then rdPayload s f m r
  else rdRun s f ((r.place + m : Nat) : Int) n r
def rdLong2 (M : Int → Int → Int → RdM → RdM) (n : Nat) (s : ByteArray) (D : Int) (f : RF) (start : Nat) (E deep : Int) (q : Int × RdM) : RdM :=
  if q.2.fail.kind ≠ 0 then q.2
  else if E - (q.2.place : Int) < q.1 then q.2.bad 8 start
  else rdBody M n s D f start q.1.toNat deep q.2
def rdLong (M : Int → Int → Int → RdM → RdM) (n : Nat) (s : ByteArray) (D : Int) (f : RF) (E deep : Int) (r : RdM) : RdM := rdLong2 M n s D f r.place E deep (rdVar s E r)
/-- A field: its tag is read. -/
def rdTag2 (M : Int → Int → Int → RdM → RdM) (n : Nat) (s : ByteArray) (D : Int) (E deep : Int) (start : Nat) (t : Int × Int × Bool) (fk : RF × Bool) (r : RdM) : RdM :=
  if t.2.2 = false then r.bad 2 start
  else if wireOkB t.2.1 = false then r.bad 3 start
  else if (fk.2 && !allowedB fk.1 t.2.1) = true then r.bad 4 start
  else if t.2.1 = 2 then rdLong M n s D fk.1 E deep r
  else rdNum s fk.1 t.2.1 E r
def rdStep (M : Int → Int → Int → RdM → RdM) (n : Nat) (s : ByteArray) (sch : List RM) (D : Int) (shape E deep : Int) (r : RdM) : RdM :=
  if (rdVar s E r).2.fail.kind ≠ 0 then (rdVar s E r).2
  else rdTag2 M n s D E deep r.place (tagInR (rdVar s E r).1.toNat) (fieldAtR sch shape (tagInR (rdVar s E r).1.toNat).1) (rdVar s E r).2
/-- All fields up to a place; n: more than bytes are left. -/
def msgRd (s : ByteArray) (sch : List RM) (D : Int) : Nat → Int → Int → Int → RdM → RdM
  | 0, _, _, _, r => r
  | n + 1, shape, E, deep, r => if (r.place : Int) < E ∧ r.fail.kind = 0 then msgRd s sch D n shape E deep (rdStep (msgRd s sch D n) n s sch D shape E deep r) else r
theorem msgRd_more {s : ByteArray} {sch : List RM} {D : Int} {n : Nat} {shape E deep : Int} {r : RdM} (h : (r.place : Int) < E ∧ r.fail.kind = 0) : msgRd s sch D (n + 1) shape E deep r = msgRd s sch D n shape E deep (rdStep (msgRd s sch D n) n s sch D shape E deep r) := by
  show (if _ then _ else _) = _; rw [if_pos h]
theorem msgRd_end {s : ByteArray} {sch : List RM} {D : Int} {n : Nat} {shape E deep : Int} {r : RdM} (h : ¬ ((r.place : Int) < E ∧ r.fail.kind = 0)) : msgRd s sch D n shape E deep r = r := by
  cases n with
  | zero => rfl
  | succ n => show (if _ then _ else _) = _; rw [if_neg h]
theorem rdRun_more {s : ByteArray} {f : RF} {E : Int} {n : Nat} {r : RdM} (h : (r.place : Int) < E ∧ r.fail.kind = 0) : rdRun s f E (n + 1) r = rdRun s f E n (rdNum s f (wireR f.2.1) E r) := by
  show (if _ then _ else _) = _; rw [if_pos h]
theorem rdRun_end {s : ByteArray} {f : RF} {E : Int} {n : Nat} {r : RdM} (h : ¬ ((r.place : Int) < E ∧ r.fail.kind = 0)) : rdRun s f E n r = r := by
  cases n with
  | zero => rfl
  | succ n => show (if _ then _ else _) = _; rw [if_neg h]
/-- The whole: what is told, and what went wrong. -/

noncomputable def rdOkB (sch : List RM) (A B C shape : Int) (s : ByteArray) (a E deep : Int) : Bool := planB sch A B C && decide (0 ≤ shape ∧ shape ≤ (sch.length : Int) - 1) && decide (0 ≤ a ∧ a ≤ s.size) && decide (a ≤ E) && decide (1 ≤ deep ∧ deep ≤ B)
noncomputable def readR (sch : List RM) (A B C shape : Int) (s : ByteArray) (a E deep : Int) : List Ev × Ev :=
  if rdOkB sch A B C shape s a E deep = true then ((msgRd s sch B (s.size + 1) shape E deep ⟨a.toNat, [], zeroE⟩).out, (msgRd s sch B (s.size + 1) shape E deep ⟨a.toNat, [], zeroE⟩).fail) else ([], zeroE)
end Go.Proofs.YtpkofbdfnbpfpaaGreat.Num


/-
  The walks of the reference's SameEvents, Terminal and Many; two events compared.
-/
namespace Go.Proofs.YtpkofbdfnbpfpaaGreat.Num
open Go.RowKit Go.Proofs
set_option linter.unusedVariables false
set_option linter.unusedSimpArgs false

theorem Box.seven {w : World} {g : Nat} {a b c d e f h : Value} (hx : Box w g [a, b, c, d, e, f, h]) : (w.cell? ⟨g, 0, none⟩ = some a ∧ w.cell? ⟨g, 1, none⟩ = some b ∧ w.cell? ⟨g, 2, none⟩ = some c ∧ w.cell? ⟨g, 3, none⟩ = some d ∧ w.cell? ⟨g, 4, none⟩ = some e ∧ w.cell? ⟨g, 5, none⟩ = some f ∧ w.cell? ⟨g, 6, none⟩ = some h) ∧
    w.frozen? ⟨g, 0, none⟩ = false ∧ w.frozen? ⟨g, 1, none⟩ = false ∧ w.frozen? ⟨g, 2, none⟩ = false ∧ w.frozen? ⟨g, 3, none⟩ = false ∧ w.frozen? ⟨g, 4, none⟩ = false ∧ w.frozen? ⟨g, 5, none⟩ = false ∧ w.frozen? ⟨g, 6, none⟩ = false :=
  ⟨⟨(hx.2 0 (by simp)).1, (hx.2 1 (by simp)).1, (hx.2 2 (by simp)).1, (hx.2 3 (by simp)).1, (hx.2 4 (by simp)).1, (hx.2 5 (by simp)).1, (hx.2 6 (by simp)).1⟩,
    (hx.2 0 (by simp)).2, (hx.2 1 (by simp)).2, (hx.2 2 (by simp)).2, (hx.2 3 (by simp)).2, (hx.2 4 (by simp)).2, (hx.2 5 (by simp)).2, (hx.2 6 (by simp)).2⟩
theorem ba_inj {a b : ByteArray} (h : a.toList = b.toList) : a = b := by
  rw [ByteArray.toList_eq, ByteArray.toList_eq] at h
  exact Go.WideShapes.bytes_inj (by simpa using h)
theorem neBA {a b : ByteArray} (h : a ≠ b) : (a.toList == b.toList) = false := by rw [beq_eq_false_iff_ne]; exact fun e => h (ba_inj e)
/-- Two events compared by the program's '=='. -/
theorem evEq (a b : Ev) (w : World) : (Op.equalIn 10000 34 (evV a) (evV b)).run Tryz.prog w = .ok (decide (a = b)) w := by
  obtain ⟨k, f, b', l, t, c, p⟩ := a
  obtain ⟨k', f', b'', l', t', c', p'⟩ := b
  unfold evV
  simp only
  have key : decide ((⟨k, f, b', l, t, c, p⟩ : Ev) = ⟨k', f', b'', l', t', c', p'⟩) = ((k == k') && ((f == f') && ((b' == b'') && ((l == l') && ((t.toList == t'.toList) && ((c == c') && (p == p'))))))) := by
    rw [Bool.eq_iff_iff]
    simp only [decide_eq_true_eq, Bool.and_eq_true, beq_iff_eq]
    rw [Ev.same]
    simp only
    constructor
    · rintro ⟨h1, h2, h3, h4, h5, h6, h7⟩; exact ⟨h1, h2, h3, h4, by rw [h5], h6, h7⟩
    · rintro ⟨h1, h2, h3, h4, h5, h6, h7⟩; exact ⟨h1, h2, h3, h4, ba_inj h5, h6, h7⟩
  rw [key]
  clear key
  cases h1 : (k == k')
  · go_simp
  · cases h2 : (f == f')
    · go_simp
    · cases h3 : (b' == b'')
      · go_simp
      · cases h4 : (l == l')
        · go_simp
        · cases h5 : (t.toList == t'.toList)
          · go_simp
          · cases h6 : (c == c')
            · go_simp
            · cases h7 : (p == p')
              · go_simp
              · go_simp
theorem evEq_as {a b : Ev} {Q : Bool} (h : decide (a = b) = Q) (w : World) : (Op.equalIn 10000 34 (evV a) (evV b)).run Tryz.prog w = .ok Q w := h ▸ evEq a b w
def termB (e : Ev) : Bool := decide (e.kind = 9 ∨ e.kind = 10)
theorem specTerminal_any (e : Ev) (w : World) : Calls Tryz.prog 28 #[evV e] w fun x w' => x = .returned (.bool (termB e)) ∧ Below w.heap.size w w' := by
  obtain ⟨k, f, b, l, t, c, p⟩ := e
  unfold evV
  simp only
  by_cases h1 : k = 9
  · subst h1
    go_enter Tryz.func28, Tryz.ntmps28
    go_wp2_with fail
    go_ret
    exact ⟨rfl, (Below.refl _ _).alloc (Nat.le_refl _) _⟩
  · have e1 := neI h1
    by_cases h2 : k = 10
    · subst h2
      go_enter Tryz.func28, Tryz.ntmps28
      go_wp2_with fail
      go_ret
      exact ⟨rfl, (Below.refl _ _).alloc (Nat.le_refl _) _⟩
    · have e2 := neI h2
      have hr : termB ⟨k, f, b, l, t, c, p⟩ = false := decide_eq_false (by simp only; omega)
      rw [hr]
      clear hr h1 h2
      go_enter Tryz.func28, Tryz.ntmps28
      go_wp2_with fail
      go_ret
      exact ⟨rfl, (Below.refl _ _).alloc (Nat.le_refl _) _⟩
def manyN (l : List Ev) (k : Int) : Nat := l.countP fun e => decide (e.kind = k)
theorem manyN_take (l : List Ev) (k : Int) (i : Nat) (hi : i < l.length) : manyN (l.take (i + 1)) k = manyN (l.take i) k + (if l[i].kind = k then 1 else 0) := by
  unfold manyN
  rw [List.take_succ_eq_append_getElem hi, List.countP_append, List.countP_singleton]
  by_cases h : l[i].kind = k <;> simp [h]
theorem manyN_le (l : List Ev) (k : Int) : manyN l k ≤ l.length := List.countP_le_length
set_option maxHeartbeats 1000000 in
theorem specMany_any (v : Value) (l : List Ev) (k : Int) (w : World) (h : EvsAt w (· < w.heap.size) v l) (hl : l.length ≤ 1048576000) :
    Calls Tryz.prog 86 #[v, .int .i64 k] w fun e w' => e = .returned (.int .i64 (manyN l k)) ∧ Below w.heap.size w w' := by
  obtain ⟨a, cap, rfl⟩ := h.len
  have H := Lib.hid h
  clear h
  go_enter Tryz.func86, Tryz.ntmps86
  go_wp2_with fail
  go_loopw [5, 6] (fun n i wr => ∃ j : Nat, j ≤ l.length ∧ i = .int .i64 j ∧ n = .int .i64 (manyN (l.take j) k) ∧ Below w.heap.size w wr) (fun _ i _ => l.length - (intOf i).toNat)
  case atStart => exact ⟨0, by omega, rfl, rfl, Below.refl _ _⟩
  case round =>
    obtain ⟨j, hj, rfl, rfl, hbr⟩ := hrel
    by_cases hlt : j < l.length
    · have hlti : (j : Int) < (l.length : Int) := by omega
      obtain ⟨b, o, rfl, hbC, c0, c1, c2, c3, c4, c5, c6⟩ := H.out.cellsAt j hlt
      rw [← hbr.cell (p := ⟨b, _, none⟩) hbC] at c0 c1 c2 c3 c4 c5 c6
      have Hm := Lib.hid (manyN_take l k j hlt)
      have hmle : manyN (l.take j) k ≤ l.length := Nat.le_trans (manyN_le _ _) (by simp; omega)
      generalize manyN (l.take j) k = m at Hm hmle ⊢
      by_cases hk : l[j].kind = k
      · have Hm2 : Hid (manyN (l.take (j + 1)) k = m + 1) := Lib.hid (by rw [Hm.out, if_pos hk])
        clear Hm
        generalize l[j] = e at hk c0 c1 c2 c3 c4 c5 c6
        obtain ⟨ek, ef, eb, el, et, ec, ep⟩ := e
        simp only at hk c0 c1 c2 c3 c4 c5 c6
        subst hk
        have hw : IntKind.i64.wrap ((m : Int) + 1) = ((m + 1 : Nat) : Int) := IntWalk.i64_in _ (by omega)
        go_wp2_with fail
        go_roundw
        case rel => exact ⟨j + 1, by omega, by go_num, by rw [Hm2.out]; go_num, hbr⟩
        case measure => simp [intOf]; omega
      · have Hm2 : Hid (manyN (l.take (j + 1)) k = m) := Lib.hid (by rw [Hm.out, if_neg hk]; rfl)
        clear Hm
        generalize l[j] = e at hk c0 c1 c2 c3 c4 c5 c6
        obtain ⟨ek, ef, eb, el, et, ec, ep⟩ := e
        simp only at hk c0 c1 c2 c3 c4 c5 c6
        have e1 := neI hk
        clear hk
        go_wp2_with fail
        go_roundw
        case rel => exact ⟨j + 1, by omega, by go_num, by rw [Hm2.out], hbr⟩
        case measure => simp [intOf]; omega
    · have hge : (l.length : Int) ≤ (j : Int) := by omega
      have hend : decide (j < l.length) = false := decide_eq_false hlt
      obtain rfl : j = l.length := by omega
      go_wp2_with fail
      go_ret
      exact ⟨by rw [List.take_length]; rfl, hbr⟩
set_option maxHeartbeats 2000000 in
theorem specSameEvents_any (v u : Value) (l m : List Ev) (w : World) (hv : EvsAt w (· < w.heap.size) v l) (hu : EvsAt w (· < w.heap.size) u m) (hl : l.length ≤ 1048576000) (hm : m.length ≤ 1048576000) :
    Calls Tryz.prog 20 #[v, u] w fun e w' => e = .returned (.bool (decide (l = m))) ∧ Below w.heap.size w w' := by
  obtain ⟨R, hR⟩ : ∃ R, decide (l = m) = R := ⟨_, rfl⟩
  rw [hR]
  have Tell : Hid ((l = m → R = true) ∧ (l ≠ m → R = false)) := Lib.hid ⟨fun h => by rw [← hR]; exact decide_eq_true h, fun h => by rw [← hR]; exact decide_eq_false h⟩
  clear hR
  obtain ⟨a, cap, rfl⟩ := hv.len
  obtain ⟨a', cap', rfl⟩ := hu.len
  have H := Lib.hid hv
  have H' := Lib.hid hu
  clear hv hu
  by_cases hlen : l.length = m.length
  · have hlb : ((l.length : Int) == (m.length : Int)) = true := by rw [beq_iff_eq]; omega
    have hlb2 : (l.length == m.length) = true := by rw [beq_iff_eq]; exact hlen
    have hlb3 : ((l.length : Int) != (m.length : Int)) = false := by rw [bne, hlb]; rfl
    have hlb4 : (l.length != m.length) = false := by rw [bne, hlb2]; rfl
    have Hlen := Lib.hid hlen
    clear hlen
    go_enter Tryz.func20, Tryz.ntmps20
    go_wp2_with fail
    go_loopw [5] (fun i wr => ∃ k : Nat, k ≤ l.length ∧ i = .int .i64 k ∧ Hid (∀ j (h1 : j < l.length) (h2 : j < m.length), j < k → l[j] = m[j]) ∧ Below w.heap.size w wr) (fun i _ => l.length - (intOf i).toNat)
    case atStart => exact ⟨0, by omega, rfl, Lib.hid fun j _ _ hj => by omega, Below.refl _ _⟩
    case round =>
      obtain ⟨k, hk, rfl, hsame, hbr⟩ := hrel
      by_cases hlt : k < l.length
      · have hlts : k < m.length := by rw [← Hlen.out]; exact hlt
        have hlti : (k : Int) < (l.length : Int) := by omega
        have hltsi : (k : Int) < (m.length : Int) := by omega
        obtain ⟨b, o, rfl, hbC, c0, c1, c2, c3, c4, c5, c6⟩ := H.out.cellsAt k hlt
        obtain ⟨b', o', rfl, hbC', d0, d1, d2, d3, d4, d5, d6⟩ := H'.out.cellsAt k hlts
        rw [← hbr.cell (p := ⟨b, _, none⟩) hbC] at c0 c1 c2 c3 c4 c5 c6
        rw [← hbr.cell (p := ⟨b', _, none⟩) hbC'] at d0 d1 d2 d3 d4 d5 d6
        have Hne : Hid (l[k] ≠ m[k] → R = false) := Lib.hid fun h => Tell.out.2 fun e => h (by subst e; rfl)
        have Hnext : Hid (l[k] = m[k] → ∀ j (h1 : j < l.length) (h2 : j < m.length), j < k + 1 → l[j] = m[j]) := Lib.hid fun e j h1 h2 hj => by
          by_cases ej : j = k
          · subst ej; exact e
          · exact hsame.out j h1 h2 (by omega)
        clear hsame
        generalize l[k] = x at c0 c1 c2 c3 c4 c5 c6 Hne Hnext
        generalize m[k] = y at d0 d1 d2 d3 d4 d5 d6 Hne Hnext
        by_cases hxy : x = y
        · subst hxy
          have Hn := Lib.hid (Hnext.out rfl)
          have hE := evEq_as (a := x) (b := x) (Q := true) (decide_eq_true rfl)
          unfold evV at hE
          clear Hnext Hne
          go_wp2_with fail
          go_quiet (fail)
          go_wp2_with fail
          go_roundw
          case rel => exact ⟨k + 1, by omega, by go_num, Hn, below_drewN hbr _⟩
          case measure => simp [intOf]; omega
        · obtain rfl := Hne.out hxy
          have hE := evEq_as (a := x) (b := y) (Q := false) (decide_eq_false hxy)
          unfold evV at hE
          clear Hnext Hne hxy
          go_wp2_with fail
          go_quiet (fail)
          go_wp2_with fail
          go_ret
          exact ⟨rfl, below_drewN hbr _⟩
      · have hge : (l.length : Int) ≤ (k : Int) := by omega
        have hend : decide (k < l.length) = false := decide_eq_false hlt
        obtain rfl := Tell.out.1 (List.ext_getElem Hlen.out fun j h1 h2 => hsame.out j h1 h2 (by omega))
        go_wp2_with fail
        go_ret
        exact ⟨rfl, hbr⟩
  · obtain rfl := Tell.out.2 fun e => hlen (by rw [e])
    have hlb := neI (x := (l.length : Int)) (c := (m.length : Int)) (by omega)
    have hlb2 := neN hlen
    clear hlen
    go_enter Tryz.func20, Tryz.ntmps20
    go_wp2_with fail
    go_ret
    exact ⟨rfl, Below.refl _ _⟩
end Go.Proofs.YtpkofbdfnbpfpaaGreat.Num


/-
  The walks of the reference's Merged, PartBytes and LongestPart; only new memory is written.
-/
namespace Go.Proofs.YtpkofbdfnbpfpaaGreat.Num
open Go.RowKit Go.Proofs
set_option linter.unusedVariables false
set_option linter.unusedSimpArgs false
attribute [local go_sem] Region.wanted yielded

theorem cat_run (a b : ByteArray) (h : a.size + b.size ≤ 1048576000) (w : World) : (Op.stringOp .add a b).run Tryz.prog w = .ok (.string (a ++ b)) w := run_string_add_sum _ _ _ (by omega)
/-- Texts of what is merged, bounded together. -/
theorem mergeStep_texts (out : List Ev) (e : Ev) : textsLen (mergeStep out e) ≤ textsLen out + e.text.size := by
  by_cases h : e.kind = 4 ∧ e.text.size = 0
  · rw [merge_skip h]; omega
  · rcases nil_or_last out with rfl | ⟨i, x, rfl⟩
    · rw [merge_nil h]; simp [textsLen]
    · by_cases hn : e.kind = 4 ∧ x.kind = 4
      · rw [merge_join (fun e0 => h ⟨hn.1, e0⟩) hn.1 hn.2, textsLen_append, textsLen_append]
        simp only [textsLen, List.map_cons, List.map_nil, List.sum_cons, List.sum_nil, ba_app_size]; omega
      · rw [merge_push h hn, textsLen_append]; simp [textsLen]
theorem merged_texts (l : List Ev) : textsLen (mergedE l) ≤ textsLen l := by
  have key : ∀ (l out : List Ev), textsLen (l.foldl mergeStep out) ≤ textsLen out + textsLen l := by
    intro l
    induction l with
    | nil => intro out; simp [textsLen]
    | cons e l ih => intro out; simp only [List.foldl_cons]; have := ih (mergeStep out e); have := mergeStep_texts out e; simp only [textsLen, List.map_cons, List.sum_cons] at *; omega
  have := key l []; simpa [mergedE, textsLen] using this
theorem texts_take (l : List Ev) (k : Nat) : textsLen (l.take k) ≤ textsLen l := by
  conv => rhs; rw [← List.take_append_drop k l]
  rw [textsLen_append]; omega
set_option maxHeartbeats 4000000 in
set_option maxRecDepth 100000 in
theorem specMerged_any (v : Value) (l : List Ev) (w : World) (h : EvsAt w (· < w.heap.size) v l) (hl : SmallE l) :
    Calls Tryz.prog 67 #[v] w fun e w' => ∃ g cap, e = .returned (.slice (some ⟨g, 0, none⟩) (mergedE l).length cap) ∧ OwnE w' w.heap.size 34 (.slice (some ⟨g, 0, none⟩) (mergedE l).length cap) (mergedE l) ∧ Below w.heap.size w w' := by
  obtain ⟨i0, hi, hz0, hz1, hz2⟩ := info_parts info_event
  obtain ⟨a, cap, rfl⟩ := h.len
  have H := Lib.hid h
  have hl1 := hl.1
  have Hl := Lib.hid hl.2
  clear h hl
  go_enter Tryz.func67, Tryz.ntmps67
  go_upto_region 3 with fail
  have HO0 := Lib.hid (OwnE.start w w.heap.size 34 (Nat.le_refl _))
  have hb0 : Below w.heap.size w (w.alloc (.cells #[] 34)) := (Below.refl _ _).alloc (Nat.le_refl _) _
  generalize w.alloc (.cells #[] 34) = w1 at HO0 hb0 ⊢
  go_loopw [3, 4] (fun o i wr => ∃ (k n g cp : Nat), k ≤ l.length ∧ i = .int .i64 k ∧ n ≤ k ∧ o = .slice (some ⟨g, 0, none⟩) n cp ∧ Hid ((mergedE (l.take k)).length = n) ∧ Hid (OwnE wr w.heap.size 34 (.slice (some ⟨g, 0, none⟩) n cp) (mergedE (l.take k))) ∧ Below w.heap.size w wr) (fun _ i _ => l.length - (intOf i).toNat)
  case atStart => exact ⟨0, 0, _, _, by omega, rfl, by omega, rfl, Lib.hid rfl, HO0, hb0⟩
  case round =>
    clear HO0 hb0
    obtain ⟨k, n, g, cp, hk, rfl, hnk, rfl, hlen, hown, hbr⟩ := hrel
    have hzr := hbr.size
    by_cases hlt : k < l.length
    · have hlti : (k : Int) < (l.length : Int) := by omega
      obtain ⟨b, o, rfl, hbC, c0, c1, c2, c3, c4, c5, c6⟩ := H.out.cellsAt k hlt
      rw [← hbr.cell (p := ⟨b, _, none⟩) hbC] at c0 c1 c2 c3 c4 c5 c6
      have Hnext := Lib.hid (merged_take l k hlt)
      have Htx : Hid (textsLen (mergedE (l.take k)) + l[k].text.size ≤ 1048576) := Lib.hid (by
        have h1 := merged_texts (l.take k)
        have h2 := textsLen_take l k hlt
        have h3 := texts_take l (k + 1)
        have := Hl.out; omega)
      generalize l[k] = e at c0 c1 c2 c3 c4 c5 c6 Hnext Htx
      generalize mergedE (l.take k) = out at hlen hown Hnext Htx
      obtain ⟨K, F, Bt, L, Tx, C, P⟩ := e
      simp only at c0 c1 c2 c3 c4 c5 c6
      have Hlen := Lib.hid hlen.out
      have Hrow0 := Lib.hid hown.out
      have hgl := (hown.out.lt g rfl).2
      clear hlen hown
      have hx1 := Box.fresh wr #[.int .i64 K, .int .i64 F, .int .u64 Bt, .int .i64 L, .string Tx, .int .i64 C, .int .i64 P] 34
      have hb1 : Below w.heap.size w (wr.alloc (.cells #[.int .i64 K, .int .i64 F, .int .u64 Bt, .int .i64 L, .string Tx, .int .i64 C, .int .i64 P] 34)) := hbr.alloc hzr _
      have Hr1 := Lib.hid (Hrow0.out.alloc (.cells #[.int .i64 K, .int .i64 F, .int .u64 Bt, .int .i64 L, .string Tx, .int .i64 C, .int .i64 P] 34))
      have hzx : (wr.alloc (.cells #[.int .i64 K, .int .i64 F, .int .u64 Bt, .int .i64 L, .string Tx, .int .i64 C, .int .i64 P] 34)).heap.size = wr.heap.size + 1 := by simp
      go_upto_region 6 with fail
      generalize wr.alloc (.cells #[.int .i64 K, .int .i64 F, .int .u64 Bt, .int .i64 L, .string Tx, .int .i64 C, .int .i64 P] 34) = wq at hx1 hb1 Hr1 hzx ⊢
      have hge : wr.heap.size < wq.heap.size := by omega
      have hzq : w.heap.size ≤ wq.heap.size := hb1.size
      have hgl2 : g < wq.heap.size := by omega
      have hne : ¬ g = wr.heap.size := by omega
      have hne2 : ¬ wr.heap.size = g := by omega
      clear hzx
      generalize wr.heap.size = ge at hx1 hge hne hne2 ⊢
      clear Hrow0 hgl c0 c1 c2 c3 c4 c5 c6 hbr hbC
      obtain ⟨⟨e0, e1, e2, e3, e4, e5, e6⟩, _⟩ := Box.seven hx1
      have HrN : Hid (wq.ownsRow w.heap.size 34 7 (.slice (some ⟨g, 0, none⟩) n cp) n (out.flatMap evC)) := Lib.hid (by have h := Hr1.out; unfold OwnE at h; rw [Hlen.out] at h; exact h)
      by_cases hskip : K = 4 ∧ Tx.size = 0
      · obtain ⟨rfl, ht⟩ := hskip
        obtain rfl := ba_zero ht
        have Hn : Hid (mergedE (l.take (k + 1)) = out) := Lib.hid (by rw [Hnext.out, merge_skip ⟨rfl, rfl⟩])
        go_wp2_with fail
        go_roundw
        case rel => exact ⟨k + 1, n, g, cp, by omega, by go_num, by omega, rfl, Lib.hid (by rw [Hn.out]; exact Hlen.out), by rw [Hn.out]; exact Hr1, hb1⟩
        case measure => simp [intOf]; omega
      · have Hsk := Lib.hid hskip
        have Hpush : Hid ((n = 0 ∨ ¬ (K = 4 ∧ ∃ x, out.getLast? = some x ∧ x.kind = 4)) → mergedE (l.take (k + 1)) = out ++ [⟨K, F, Bt, L, Tx, C, P⟩]) := Lib.hid fun h => by
          rw [Hnext.out]
          rcases nil_or_last out with rfl | ⟨i, x, rfl⟩
          · exact merge_nil Hsk.out
          · refine merge_push Hsk.out fun g => ?_
            rcases h with h | h
            · have := Hlen.out; simp at this; omega
            · exact h ⟨g.1, x, by simp, g.2⟩
        -- the append
        have Happ : Hid (∀ g2 cap2 w2, w2.ownsRow w.heap.size 34 7 (.slice (some ⟨g2, 0, none⟩) (n + 1) cap2) (n + 1) (out.flatMap evC ++ evC ⟨K, F, Bt, L, Tx, C, P⟩) → mergedE (l.take (k + 1)) = out ++ [⟨K, F, Bt, L, Tx, C, P⟩] → (mergedE (l.take (k + 1))).length = n + 1 ∧ OwnE w2 w.heap.size 34 (.slice (some ⟨g2, 0, none⟩) (n + 1) cap2) (mergedE (l.take (k + 1)))) := Lib.hid fun g2 cap2 w2 h he => by
          have hl : (out ++ [(⟨K, F, Bt, L, Tx, C, P⟩ : Ev)]).length = n + 1 := by rw [List.length_append, Hlen.out]; rfl
          rw [he]
          refine ⟨hl, ?_⟩
          unfold OwnE
          rw [hl, flat_snoc]; exact h
        have Hnew := Lib.hid (heap_alloc_new wq (.cells #[.int .i64 K, .int .i64 F, .int .u64 Bt, .int .i64 L, .string Tx, .int .i64 C, .int .i64 P] 34))
        by_cases hK : K = 4
        · have kK : (K == 4) = true := by rw [hK]; rfl
          have ht : Tx.toList.isEmpty = false := by
            cases hh : Tx.toList.isEmpty with
            | false => rfl
            | true => exact absurd (by rw [ba_inj (a := Tx) (b := .empty) (by rw [List.isEmpty_iff.1 hh, ByteArray.toList_eq]; rfl)]; rfl) (fun h => Hsk.out ⟨hK, h⟩)
          clear hK
          by_cases hn0 : n = 0
          · have Hp := Lib.hid (Hpush.out (.inl hn0))
            have d1 : decide ((0 : Int) < (n : Int)) = false := decide_eq_false (by omega)
            have d2 : decide (0 < n) = false := decide_eq_false (by omega)
            clear hn0
            go_wp2_with (at_builtin; refine wpList_append_lies _ (by rfl) (.tmp 58) (.tmp 60) 31 (by rfl) w.heap.size 34 i0 _ 7 64 Tryz.underlying31 hi hz0 hz1 hz2 (by rfl) (by omega) (.slice (some ⟨g, 0, none⟩) n cp) n _ (by rfl) (World.ownsRow.alloc HrN.out _) ⟨wq.heap.size, 0, none⟩ 1 1 (evC ⟨K, F, Bt, L, Tx, C, P⟩) (by rfl) (by rfl) (fun j u hj => World.news_of_block Hnew.out j u hj) (by intro u hu; simp [evC] at hu; rcases hu with rfl | rfl | rfl | rfl | rfl | rfl | rfl <;> rfl) (by omega) (by unfold maxLen; omega) (by omega) (by simp; omega) _ rfl ?_; intro g2 cap2 w2 hown2 hg2 hor2 hlt2)
            obtain ⟨hl2, ho2⟩ := Happ.out _ _ _ hown2 Hp.out
            have hb2 := (hb1.alloc hb1.size (.cells #[.int .i64 K, .int .i64 F, .int .u64 Bt, .int .i64 L, .string Tx, .int .i64 C, .int .i64 P] 34)).grown hg2 (by simp; have := hb1.size; omega) (fun q hq => (World.ownsRow.lt Hr1.out q hq).1)
            have HL := Lib.hid hl2
            have HO := Lib.hid ho2
            clear hown2 hg2 hor2 hl2 ho2
            go_roundw
            case rel => exact ⟨k + 1, n + 1, g2, cap2, by omega, by go_num, by omega, rfl, HL, HO, hb2⟩
            case measure => simp [intOf]; omega
          · have hn1 : (0 : Int) < (n : Int) := by omega
            obtain ⟨i, x, rfl⟩ : ∃ i x, out = i ++ [x] := by
              rcases nil_or_last out with rfl | h
              · exact absurd Hlen.out.symm hn0
              · exact h
            have hni : n = i.length + 1 := by have := Hlen.out; simp at this; omega
            have hw : IntKind.i64.wrap ((n : Int) - 1) = (i.length : Int) := by rw [IntWalk.i64_in _ (by omega)]; omega
            have hil : (i.length : Int) < (n : Int) := by omega
            have hil2 : i.length < n := by omega
            have Hni := Lib.hid hni
            clear hni
            obtain ⟨x0, x1, x2, x3, x4, x5, x6⟩ := Hr1.out.cellsAt i.length (by simp)
            rw [List.getElem_append_right (Nat.le_refl _)] at x0 x1 x2 x3 x4 x5 x6
            simp only [Nat.sub_self, List.getElem_cons_zero] at x0 x1 x2 x3 x4 x5 x6
            by_cases hx4 : x.kind = 4
            · have kx : (x.kind == 4) = true := by rw [hx4]; rfl
              have Hj : Hid (mergedE (l.take (k + 1)) = i ++ [{ x with text := x.text ++ Tx }]) := Lib.hid (by rw [Hnext.out]; exact merge_join (fun h => Hsk.out ⟨by have := ‹(K == 4) = true›; simpa using this, h⟩) (by have := ‹(K == 4) = true›; simpa using this) hx4)
              have hcat := cat_run x.text Tx (by have := Htx.out; rw [textsLen_append] at this; simp [textsLen] at this; omega)
              have hfr := World.ownsRow.frozenAt HrN.out (i.length * 7 + 4)
              have Hset : Hid (OwnE (wq.setCell ⟨g, i.length * 7 + 4, none⟩ (.string (x.text ++ Tx))) w.heap.size 34 (.slice (some ⟨g, 0, none⟩) n cp) (i ++ [{ x with text := x.text ++ Tx }])) := Lib.hid (by
                have h := Hr1.out
                rw [Hni.out] at h ⊢
                exact h.setText _)
              have Hlj : Hid ((i ++ [({ x with text := x.text ++ Tx } : Ev)]).length = n) := Lib.hid (by rw [Hni.out]; simp)
              have Hgw : Hid (w.heap.size ≤ g) := Lib.hid (World.ownsRow.lt Hr1.out g rfl).1
              generalize x.text ++ Tx = tx at hcat Hj Hset Hlj
              clear hx4 hn0
              go_wp2_with fail
              go_region
              all_goals
                go_wp2_with fail
                go_roundw
                case rel => exact ⟨k + 1, n, g, cp, by omega, by go_num, by omega, rfl, Lib.hid (by rw [Hj.out]; exact Hlj.out), by rw [Hj.out]; exact Hset, hb1.drew.setCell (by have := Hgw.out; simp only; omega) _⟩
                case measure => simp [intOf]; omega
            · have nx := neI hx4
              have Hp := Lib.hid (Hpush.out (.inr (fun h => by obtain ⟨_, y, h1, h2⟩ := h; simp at h1; subst h1; exact hx4 h2)))
              clear hx4 hn0
              go_wp2_with (at_builtin; refine wpList_append_lies _ (by rfl) (.tmp 58) (.tmp 60) 31 (by rfl) w.heap.size 34 i0 _ 7 64 Tryz.underlying31 hi hz0 hz1 hz2 (by rfl) (by omega) (.slice (some ⟨g, 0, none⟩) n cp) n _ (by rfl) (World.ownsRow.alloc HrN.out _) ⟨wq.heap.size, 0, none⟩ 1 1 (evC ⟨K, F, Bt, L, Tx, C, P⟩) (by rfl) (by rfl) (fun j u hj => World.news_of_block Hnew.out j u hj) (by intro u hu; simp [evC] at hu; rcases hu with rfl | rfl | rfl | rfl | rfl | rfl | rfl <;> rfl) (by omega) (by unfold maxLen; omega) (by omega) (by simp; omega) _ rfl ?_; intro g2 cap2 w2 hown2 hg2 hor2 hlt2)
              obtain ⟨hl2, ho2⟩ := Happ.out _ _ _ hown2 Hp.out
              have hb2 := (hb1.alloc hb1.size (.cells #[.int .i64 K, .int .i64 F, .int .u64 Bt, .int .i64 L, .string Tx, .int .i64 C, .int .i64 P] 34)).grown hg2 (by simp; have := hb1.size; omega) (fun q hq => (World.ownsRow.lt Hr1.out q hq).1)
              have HL := Lib.hid hl2
              have HO := Lib.hid ho2
              clear hown2 hg2 hor2 hl2 ho2
              go_roundw
              case rel => exact ⟨k + 1, n + 1, g2, cap2, by omega, by go_num, by omega, rfl, HL, HO, hb2⟩
              case measure => simp [intOf]; omega
        · have nK := neI hK
          have Hp := Lib.hid (Hpush.out (.inr fun h => hK h.1))
          clear hK
          go_wp2_with (at_builtin; refine wpList_append_lies _ (by rfl) (.tmp 58) (.tmp 60) 31 (by rfl) w.heap.size 34 i0 _ 7 64 Tryz.underlying31 hi hz0 hz1 hz2 (by rfl) (by omega) (.slice (some ⟨g, 0, none⟩) n cp) n _ (by rfl) (World.ownsRow.alloc HrN.out _) ⟨wq.heap.size, 0, none⟩ 1 1 (evC ⟨K, F, Bt, L, Tx, C, P⟩) (by rfl) (by rfl) (fun j u hj => World.news_of_block Hnew.out j u hj) (by intro u hu; simp [evC] at hu; rcases hu with rfl | rfl | rfl | rfl | rfl | rfl | rfl <;> rfl) (by omega) (by unfold maxLen; omega) (by omega) (by simp; omega) _ rfl ?_; intro g2 cap2 w2 hown2 hg2 hor2 hlt2)
          obtain ⟨hl2, ho2⟩ := Happ.out _ _ _ hown2 Hp.out
          have hb2 := (hb1.alloc hb1.size (.cells #[.int .i64 K, .int .i64 F, .int .u64 Bt, .int .i64 L, .string Tx, .int .i64 C, .int .i64 P] 34)).grown hg2 (by simp; have := hb1.size; omega) (fun q hq => (World.ownsRow.lt Hr1.out q hq).1)
          have HL := Lib.hid hl2
          have HO := Lib.hid ho2
          clear hown2 hg2 hor2 hl2 ho2
          go_roundw
          case rel => exact ⟨k + 1, n + 1, g2, cap2, by omega, by go_num, by omega, rfl, HL, HO, hb2⟩
          case measure => simp [intOf]; omega
    · have hge : (l.length : Int) ≤ (k : Int) := by omega
      have hend : decide (k < l.length) = false := decide_eq_false hlt
      obtain rfl : k = l.length := by omega
      have hm : mergedE (l.take l.length) = mergedE l := by rw [List.take_length]
      rw [hm] at hlen hown
      go_wp2_with fail
      go_ret
      exact ⟨g, cp, by rw [hlen.out]; rfl, by rw [hlen.out]; exact hown.out, hbr⟩
end Go.Proofs.YtpkofbdfnbpfpaaGreat.Num


/-
  The walks of the reference's l1Min, l1Max, PartBytes, LongestPart and PrefixOf; only new memory is written.
-/
namespace Go.Proofs.YtpkofbdfnbpfpaaGreat.Num
open Go.RowKit Go.Proofs
set_option linter.unusedVariables false
set_option linter.unusedSimpArgs false
attribute [local go_sem] Region.wanted yielded

theorem specMax_any (a b : Int) (w : World) : Calls Tryz.prog 76 #[.int .i64 a, .int .i64 b] w fun e w' => e = .returned (.int .i64 (max a b)) ∧ w = w' := by
  by_cases h : b < a
  · have hm : max a b = a := by omega
    rw [hm]
    go_enter Tryz.func76, Tryz.ntmps76
    go_wp2_with fail
    go_ret
    exact ⟨rfl, rfl⟩
  · have hm : max a b = b := by omega
    have hd : decide (b < a) = false := decide_eq_false h
    rw [hm]
    clear h hm
    go_enter Tryz.func76, Tryz.ntmps76
    go_wp2_with fail
    go_ret
    exact ⟨rfl, rfl⟩
theorem specMin_any (a b : Int) (w : World) : Calls Tryz.prog 72 #[.int .i64 a, .int .i64 b] w fun e w' => e = .returned (.int .i64 (min a b)) ∧ w = w' := by
  by_cases h : a < b
  · have hm : min a b = a := by omega
    rw [hm]
    go_enter Tryz.func72, Tryz.ntmps72
    go_wp2_with fail
    go_ret
    exact ⟨rfl, rfl⟩
  · have hm : min a b = b := by omega
    have hd : decide (a < b) = false := decide_eq_false h
    rw [hm]
    clear h hm
    go_enter Tryz.func72, Tryz.ntmps72
    go_wp2_with fail
    go_ret
    exact ⟨rfl, rfl⟩
end Go.Proofs.YtpkofbdfnbpfpaaGreat.Num


/-
  The walk of the reference's l12Payload: a text or bytes are told, as far as they are there and right.
-/
namespace Go.Proofs.YtpkofbdfnbpfpaaGreat.Num
open Go.RowKit Go.Proofs
set_option linter.unusedVariables false
set_option linter.unusedSimpArgs false

theorem utfOf_text {t : ByteArray} : utfOf 6 t = Utf.run Utf.z t.data.toList := if_pos rfl
theorem utfOf_other {k : Int} {t : ByteArray} (h : k ≠ 6) : utfOf k t = (Utf.z, none) := if_neg h
theorem isEmpty_of {t : ByteArray} (h : t.size = 0) : t.toList.isEmpty = true := by rw [ba_zero h]; exact (congrArg List.isEmpty (ByteArray.toList_eq (⟨#[]⟩ : ByteArray))).trans rfl
theorem notEmpty_of {t : ByteArray} (h : t.size ≠ 0) : t.toList.isEmpty = false := by
  cases hh : t.toList.isEmpty with
  | false => rfl
  | true => exact absurd (by rw [ba_inj (a := t) (b := .empty) (by rw [List.isEmpty_iff.1 hh, ByteArray.toList_eq]; rfl)]; rfl) h
set_option maxHeartbeats 4000000 in
set_option maxRecDepth 100000 in
theorem l12Payload_any (g : Nat) (u : Value) (sch : List RM) (A B C : Int) (f : RF) (n : Nat) (s : ByteArray) (o : Value) (r : RdM) (w : World) (h : RdAt w g u sch A B C s o r) (hs : s.size ≤ 281474976710656) (hn : (r.place + n : Nat) ≤ 9223372036854775807) (hr : r.fail.kind = 0) (hl : r.out.length ≤ 1048575990) :
    Calls Tryz.prog 141 #[.pointer (some ⟨g, 0, none⟩), fieldV f, .int .i64 n] w fun e w' => e = .returned (.tuple #[]) ∧ ∃ o', RdAt w' g u sch A B C s o' (rdPayload s f n r) ∧ Moved g o o' w w' := by
  obtain ⟨R, hR⟩ : ∃ R, rdPayload s f n r = R := ⟨_, rfl⟩
  rw [hR]
  obtain ⟨A1, A2, A3, A4, A5⟩ := f
  unfold rdPayload at hR
  simp only at hR
  unfold fieldV
  simp only
  have hg := h.lt
  have Hg := Lib.hid hg
  have hp := h.place
  have hob : ∀ k, o.ownBlock = some k → k < w.heap.size := fun k hk => (h.out.lt k hk).2
  have hbx : Box (w.alloc (.cells #[.int .i64 A1, .int .i64 A2, .bool A3, .bool A4, .int .i64 A5] 117)) w.heap.size [.int .i64 A1, .int .i64 A2, .bool A3, .bool A4, .int .i64 A5] := Box.fresh w #[.int .i64 A1, .int .i64 A2, .bool A3, .bool A4, .int .i64 A5] _
  have hl0 : Below w.heap.size w (w.alloc (.cells #[.int .i64 A1, .int .i64 A2, .bool A3, .bool A4, .int .i64 A5] 117)) := (Below.refl _ _).alloc (Nat.le_refl _) _
  have H0 := Lib.hid (h.below hl0)
  have hm0 : Moved g o o w (w.alloc (.cells #[.int .i64 A1, .int .i64 A2, .bool A3, .bool A4, .int .i64 A5] 117)) := .of_below hl0
  have hgx : w.heap.size ≠ g := by omega
  have hox : o.ownBlock ≠ some w.heap.size := fun e => Nat.lt_irrefl _ (hob _ e)
  obtain ⟨m, hm⟩ : ∃ m, min s.size (r.place + n) = m := ⟨_, rfl⟩
  have hm1 : r.place ≤ m := by omega
  have hm2 : m ≤ s.size := by omega
  have hth : thereB s r.place n = s.extract r.place m := by unfold thereB; rw [hm]
  rw [hth] at hR
  have hts : (s.extract r.place m).size = m - r.place := ba_extract_size _ _ _ hm2
  have HS : Hid ((s.extract r.place m).size ≤ n ∧ (s.extract r.place m).size ≤ 281474976710656) := Lib.hid (by omega)
  have hw1 : IntKind.i64.wrap ((r.place : Int) + (n : Int)) = ((r.place + n : Nat) : Int) := by rw [IntWalk.i64_in _ (by omega)]; omega
  have HV : Hid (∀ w, Calls Tryz.prog 72 #[.int .i64 s.size, .int .i64 ((r.place + n : Nat) : Int)] w fun e w' => e = .returned (.int .i64 m) ∧ w = w') := Lib.hid fun w => by
    have h := specMin_any (s.size : Int) ((r.place + n : Nat) : Int) w
    rw [show min (s.size : Int) ((r.place + n : Nat) : Int) = (m : Int) by omega] at h
    exact h
  have HM : Hid (∀ _ : (s.extract r.place m).size = n, r.place + n ≤ s.size) := Lib.hid fun e => by omega
  have Hl := Lib.hid hl
  have HR := Lib.hid hR
  have Hr := Lib.hid hr
  clear hm hth hts h hl0 hob hR hr hl
  go_enter Tryz.func141, Tryz.ntmps141
  go_wp2_with fail
  refine (l12Tell_any g u sch A B C s o r (openE A1 n) _ H0.out (by have := Hl.out; omega)).mono ?_
  generalize w.alloc (.cells #[.int .i64 A1, .int .i64 A2, .bool A3, .bool A4, .int .i64 A5] 117) = w1 at H0 hm0 hbx ⊢
  rintro e w2 ⟨rfl, o1, h2, hmv⟩
  have H2 := Lib.hid h2
  have hmo := hm0.trans hmv
  have hb2 := hmv.box hbx hgx hox
  clear hmv hm0 hbx h2 H0
  obtain ⟨⟨x0, x1, x2, x3, x4⟩, _⟩ := Box.five hb2
  obtain ⟨⟨c0, c1, c2, c3, c4, c5, c6, c7, c8, c9, c10, c11, c12, c13⟩, f5, f6, f7, f8, f9, f10, f11, f12, f13⟩ := H2.out.box.at7
  replace c5 : w2.cell? ⟨g, 5, none⟩ = some (.int .i64 r.place) := c5
  have hmi : (r.place : Int) ≤ (m : Int) := by omega
  have hmi2 : (m : Int) ≤ (s.size : Int) := by omega
  go_wp2_with fail
  go_quiet ((go_at_call 72; exact Calls.quiet_of_same (flip_same (HV.out _))))
  have HD : Hid (RdAt (w2.drewN nq) g u sch A B C s o1 (r.tell (openE A1 n))) := Lib.hid ⟨H2.out.box, H2.out.out, H2.out.msgs, H2.out.place⟩
  have hmd : Moved g o o1 w (w2.drewN nq) := hmo.trans (.drewN g o1 w2 nq)
  have hbd : Box (w2.drewN nq) w.heap.size [.int .i64 A1, .int .i64 A2, .bool A3, .bool A4, .int .i64 A5] := hb2.drewN nq
  generalize w2.drewN nq = wd at HD hmd hbd ⊢
  clear c0 c1 c2 c3 c4 c5 c6 c7 c8 c9 c10 c11 c12 c13 f5 f6 f7 f8 f9 f10 f11 f12 f13 x0 x1 x2 x3 x4 HV H2 hmo hb2 hmi hmi2 hm1 hm2 hw1
  generalize s.extract r.place m = t at HS HR HM ⊢
  obtain ⟨⟨x0, x1, x2, x3, x4⟩, _⟩ := Box.five hbd
  have hbl := hbd.lt
  have hu : Box (wd.alloc (.cells #[.int .i64 0, .int .i64 0, .int .i64 0] 206)) wd.heap.size [.int .i64 0, .int .i64 0, .int .i64 0] := Box.fresh wd #[.int .i64 0, .int .i64 0, .int .i64 0] _
  have hba : Below wd.heap.size wd (wd.alloc (.cells #[.int .i64 0, .int .i64 0, .int .i64 0] 206)) := (Below.refl _ _).alloc (Nat.le_refl _) _
  have hou : o1.ownBlock ≠ some wd.heap.size := fun e => Nat.lt_irrefl _ (HD.out.out.lt _ e).2
  have hgu : wd.heap.size ≠ g := by have := HD.out.lt; omega
  by_cases hk : A2 = 6
  · subst hk
    have HU : Hid (Calls Tryz.prog 170 #[.agg #[.int .i64 0, .int .i64 0, .int .i64 0], .string t] (wd.alloc (.cells #[.int .i64 0, .int .i64 0, .int .i64 0] 206)) fun e w' => e = .returned (textV (Utf.run Utf.z t.data.toList)) ∧ Below (wd.alloc (.cells #[.int .i64 0, .int .i64 0, .int .i64 0] 206)).heap.size (wd.alloc (.cells #[.int .i64 0, .int .i64 0, .int .i64 0] 206)) w') := Lib.hid (specUtfText_any 0 0 0 t _ HS.out.2)
    rw [utfOf_text] at HR
    have Hbd : Hid (∀ k, (Utf.run Utf.z t.data.toList).2 = some k → k < t.size) := Lib.hid fun k h => by have := Utf.run_bound _ _ _ h; rwa [← ba_size] at this
    generalize Utf.run Utf.z t.data.toList = q at HU HR Hbd
    obtain ⟨⟨W, L, H⟩, off⟩ := q
    unfold textV utV at HU
    simp only at HU
    go_wp2_with fail
    refine HU.out.mono ?_
    rintro e w4 ⟨rfl, hb4⟩
    have hu4 := hu.below hb4 hu.lt
    have hba4 := hba.trans (hb4.mono hba.size)
    have hgd : g < wd.heap.size := HD.out.lt
    have hz4 := hba4.size
    clear hu hb4 HU hba x0 x1 x2 x3 x4
    obtain ⟨z0, z1, z2, y0, y1, y2⟩ := hu4.three
    have hu7 : Box ((((w4.setCell ⟨wd.heap.size, 0, none⟩ (.int .i64 W)).setCell ⟨wd.heap.size, 1, none⟩ (.int .i64 L)).setCell ⟨wd.heap.size, 2, none⟩ (.int .i64 H)).alloc (.cells #[.int .i64 W, .int .i64 L, .int .i64 H] 206)) wd.heap.size [.int .i64 W, .int .i64 L, .int .i64 H] := (((hu4.set 0 (.int .i64 W)).set 1 (.int .i64 L)).set 2 (.int .i64 H)).alloc _
    have hb7 : Below wd.heap.size wd ((((w4.setCell ⟨wd.heap.size, 0, none⟩ (.int .i64 W)).setCell ⟨wd.heap.size, 1, none⟩ (.int .i64 L)).setCell ⟨wd.heap.size, 2, none⟩ (.int .i64 H)).alloc (.cells #[.int .i64 W, .int .i64 L, .int .i64 H] 206)) := (((hba4.setCell (Nat.le_refl _) _).setCell (Nat.le_refl _) _).setCell (Nat.le_refl _) _).alloc (by simpa [World.setCell] using hz4) _
    have HT := Lib.hid (HD.out.below hb7)
    have hmt := hmd.trans (Moved.of_below hb7)
    have hu4l := hu4.lt
    cases off with
    | none =>
      unfold offI
      have HRt : Hid (rdEnd s n t ((W, L, H), none) (rdPart t (r.tell (openE A1 n))) = R) := HR
      clear HR HD hmd hb7 Hbd
      go_upto_region 10 with fail
      generalize ((((w4.setCell ⟨wd.heap.size, 0, none⟩ (.int .i64 W)).setCell ⟨wd.heap.size, 1, none⟩ (.int .i64 L)).setCell ⟨wd.heap.size, 2, none⟩ (.int .i64 H)).alloc (.cells #[.int .i64 W, .int .i64 L, .int .i64 H] 206)) = wt at hu7 HT hmt ⊢
      have hu := hu7
      clear hu4 z0 z1 z2 y0 y1 y2 hba4 hu7 hu4l hz4 hgd hbl hbd
      generalize wd.heap.size = gu at hu hgu hou ⊢
      by_cases h0 : t.size = 0
      · have hE := isEmpty_of h0
        have hu2 := hu
        obtain ⟨⟨c0, c1, c2, c3, c4, c5, c6, c7, c8, c9, c10, c11, c12, c13⟩, f5, f6, f7, f8, f9, f10, f11, f12, f13⟩ := HT.out.box.at7
        replace c5 : wt.cell? ⟨g, 5, none⟩ = some (.int .i64 r.place) := c5
        replace c7 : wt.cell? ⟨g, 7, none⟩ = some (.int .i64 0) := by rw [← Hr.out]; exact c7
        have H0 := Lib.hid h0
        clear h0
        have hbw := hu2
        by_cases hlt : t.size < n
        · have hlti : (t.size : Int) < (n : Int) := by omega
          have HRf : Hid ((r.tell (openE A1 n)).bad 10 s.size = R) := Lib.hid (by rw [← HRt.out]; unfold rdEnd; simp only; rw [if_pos hlt]; unfold rdPart; rw [if_pos H0.out] <;> rfl)
          go_wp2_with fail
          refine (l12Fail_any 10 s.size _).mono ?_
          rintro e w6 ⟨rfl, hb6⟩
          have H6 := Lib.hid ((HT).out.below hb6)
          have hm6 := (hmt).trans (Moved.of_below hb6)
          clear c0 c1 c2 c3 c4 c5 c6 c7 c8 c9 c10 c11 c12 c13 f5 f6 f7 f8 f9 f10 f11 f12 f13 hb6
          obtain ⟨⟨c0, c1, c2, c3, c4, c5, c6, c7, c8, c9, c10, c11, c12, c13⟩, f5, f6, f7, f8, f9, f10, f11, f12, f13⟩ := H6.out.box.at7
          go_wp2_with fail
          go_end0
          refine ⟨rfl, o1, by rw [← HRf.out]; exact H6.out.bad 10 s.size, ?_⟩
          repeat (first | with_reducible exact hm6 | refine Moved.setCell ?_ Hg.out _ _)
        · have hltb : decide (t.size < n) = false := decide_eq_false hlt
          have hltb2 : decide ((t.size : Int) < (n : Int)) = false := decide_eq_false (by omega)
          have htn : t.size = n := by have := HS.out.1; omega
          obtain ⟨u0, u1, u2, v0, v1, v2⟩ := hbw.three
          have hple : Hid (r.place + n ≤ s.size) := Lib.hid (by have := HM.out; omega)
          by_cases hW : 0 < W
          · have HRf : Hid ((r.tell (openE A1 n)).bad 5 ((r.place + n : Nat) : Int) = R) := Lib.hid (by rw [← HRt.out]; unfold rdEnd; simp only; rw [if_neg hlt, if_pos hW]; unfold rdPart; rw [if_pos H0.out] <;> rfl)
            clear htn
            go_wp2_with fail
            refine (l12Fail_any 5 ((r.place + n : Nat) : Int) _).mono ?_
            rintro e w6 ⟨rfl, hb6⟩
            have H6 := Lib.hid ((HT).out.below hb6)
            have hm6 := (hmt).trans (Moved.of_below hb6)
            clear c0 c1 c2 c3 c4 c5 c6 c7 c8 c9 c10 c11 c12 c13 f5 f6 f7 f8 f9 f10 f11 f12 f13 hb6
            obtain ⟨⟨c0, c1, c2, c3, c4, c5, c6, c7, c8, c9, c10, c11, c12, c13⟩, f5, f6, f7, f8, f9, f10, f11, f12, f13⟩ := H6.out.box.at7
            go_wp2_with fail
            go_end0
            refine ⟨rfl, o1, by rw [← HRf.out]; exact H6.out.bad 5 ((r.place + n : Nat) : Int), ?_⟩
            repeat (first | with_reducible exact hm6 | refine Moved.setCell ?_ Hg.out _ _)
          · have hWb : decide (0 < W) = false := decide_eq_false hW
            have HRf : Hid (((r.tell (openE A1 n)).to (r.place + n)).tell shutE = R) := Lib.hid (by rw [← HRt.out]; unfold rdEnd; simp only; rw [if_neg hlt, if_neg hW]; unfold rdPart; rw [if_pos H0.out] <;> rfl)
            have H6 := Lib.hid ((HT).out.to (r.place + n) hple.out)
            have hm6 := (hmt).setCell Hg.out 5 (.int .i64 ((r.place + n : Nat) : Int))
            clear htn
            go_wp2_with fail
            refine (l12Tell_any g u sch A B C s o1 ((r.tell (openE A1 n)).to (r.place + n)) shutE _ H6.out (by have := Hl.out; simp only [RdM.to, RdM.tell, List.length_append, List.length_singleton]; omega)).mono ?_
            rintro e w7 ⟨rfl, o7, h7, hm7⟩
            have H7 := Lib.hid h7
            clear h7
            go_wp2_with fail
            go_end0
            exact ⟨rfl, o7, by rw [← HRf.out]; exact H7.out, hm6.trans hm7⟩
      · have hE := notEmpty_of h0
        have H0 := Lib.hid h0
        clear h0
        go_wp2_with fail
        refine (l12Tell_any g u sch A B C s o1 (r.tell (openE A1 n)) (partE t) _ HT.out (by have := Hl.out; simp only [RdM.tell, List.length_append, List.length_singleton]; omega)).mono ?_
        rintro e w5 ⟨rfl, o5, h5, hm5⟩
        have H5 := Lib.hid h5
        have hmt5 := hmt.trans hm5
        have hu2 := hm5.box hu hgu hou
        clear h5 hm5 hu
        obtain ⟨⟨c0, c1, c2, c3, c4, c5, c6, c7, c8, c9, c10, c11, c12, c13⟩, f5, f6, f7, f8, f9, f10, f11, f12, f13⟩ := H5.out.box.at7
        replace c5 : w5.cell? ⟨g, 5, none⟩ = some (.int .i64 r.place) := c5
        replace c7 : w5.cell? ⟨g, 7, none⟩ = some (.int .i64 0) := by rw [← Hr.out]; exact c7
        have hbw := hu2
        by_cases hlt : t.size < n
        · have hlti : (t.size : Int) < (n : Int) := by omega
          have HRf : Hid (((r.tell (openE A1 n)).tell (partE t)).bad 10 s.size = R) := Lib.hid (by rw [← HRt.out]; unfold rdEnd; simp only; rw [if_pos hlt]; unfold rdPart; rw [if_neg H0.out] <;> rfl)
          go_wp2_with fail
          refine (l12Fail_any 10 s.size _).mono ?_
          rintro e w6 ⟨rfl, hb6⟩
          have H6 := Lib.hid ((H5).out.below hb6)
          have hm6 := (hmt5).trans (Moved.of_below hb6)
          clear c0 c1 c2 c3 c4 c5 c6 c7 c8 c9 c10 c11 c12 c13 f5 f6 f7 f8 f9 f10 f11 f12 f13 hb6
          obtain ⟨⟨c0, c1, c2, c3, c4, c5, c6, c7, c8, c9, c10, c11, c12, c13⟩, f5, f6, f7, f8, f9, f10, f11, f12, f13⟩ := H6.out.box.at7
          go_wp2_with fail
          go_end0
          refine ⟨rfl, o5, by rw [← HRf.out]; exact H6.out.bad 10 s.size, ?_⟩
          repeat (first | with_reducible exact hm6 | refine Moved.setCell ?_ Hg.out _ _)
        · have hltb : decide (t.size < n) = false := decide_eq_false hlt
          have hltb2 : decide ((t.size : Int) < (n : Int)) = false := decide_eq_false (by omega)
          have htn : t.size = n := by have := HS.out.1; omega
          obtain ⟨u0, u1, u2, v0, v1, v2⟩ := hbw.three
          have hple : Hid (r.place + n ≤ s.size) := Lib.hid (by have := HM.out; omega)
          by_cases hW : 0 < W
          · have HRf : Hid (((r.tell (openE A1 n)).tell (partE t)).bad 5 ((r.place + n : Nat) : Int) = R) := Lib.hid (by rw [← HRt.out]; unfold rdEnd; simp only; rw [if_neg hlt, if_pos hW]; unfold rdPart; rw [if_neg H0.out] <;> rfl)
            clear htn
            go_wp2_with fail
            refine (l12Fail_any 5 ((r.place + n : Nat) : Int) _).mono ?_
            rintro e w6 ⟨rfl, hb6⟩
            have H6 := Lib.hid ((H5).out.below hb6)
            have hm6 := (hmt5).trans (Moved.of_below hb6)
            clear c0 c1 c2 c3 c4 c5 c6 c7 c8 c9 c10 c11 c12 c13 f5 f6 f7 f8 f9 f10 f11 f12 f13 hb6
            obtain ⟨⟨c0, c1, c2, c3, c4, c5, c6, c7, c8, c9, c10, c11, c12, c13⟩, f5, f6, f7, f8, f9, f10, f11, f12, f13⟩ := H6.out.box.at7
            go_wp2_with fail
            go_end0
            refine ⟨rfl, o5, by rw [← HRf.out]; exact H6.out.bad 5 ((r.place + n : Nat) : Int), ?_⟩
            repeat (first | with_reducible exact hm6 | refine Moved.setCell ?_ Hg.out _ _)
          · have hWb : decide (0 < W) = false := decide_eq_false hW
            have HRf : Hid ((((r.tell (openE A1 n)).tell (partE t)).to (r.place + n)).tell shutE = R) := Lib.hid (by rw [← HRt.out]; unfold rdEnd; simp only; rw [if_neg hlt, if_neg hW]; unfold rdPart; rw [if_neg H0.out] <;> rfl)
            have H6 := Lib.hid ((H5).out.to (r.place + n) hple.out)
            have hm6 := (hmt5).setCell Hg.out 5 (.int .i64 ((r.place + n : Nat) : Int))
            clear htn
            go_wp2_with fail
            refine (l12Tell_any g u sch A B C s o5 (((r.tell (openE A1 n)).tell (partE t)).to (r.place + n)) shutE _ H6.out (by have := Hl.out; simp only [RdM.to, RdM.tell, List.length_append, List.length_singleton]; omega)).mono ?_
            rintro e w7 ⟨rfl, o7, h7, hm7⟩
            have H7 := Lib.hid h7
            clear h7
            go_wp2_with fail
            go_end0
            exact ⟨rfl, o7, by rw [← HRf.out]; exact H7.out, hm6.trans hm7⟩
    | some b =>
      have hbt := Lib.hid (Hbd.out b rfl)
      have HRt : Hid ((rdPart (t.extract 0 b) (r.tell (openE A1 n))).bad 5 ((r.place : Int) + b) = R) := Lib.hid (by rw [← HR.out]; unfold rdEnd rdPart frontB; simp only; split <;> rfl)
      unfold offI
      simp only
      have hb0 : (0 : Int) ≤ (b : Int) := by omega
      have hwb : IntKind.i64.wrap ((r.place : Int) + (b : Int)) = (r.place : Int) + (b : Int) := IntWalk.i64_in _ (by have := hbt.out; have := HS.out; omega)
      have hbsz : (b : Int) ≤ (t.size : Int) := by have := hbt.out; omega
      obtain ⟨⟨c0, c1, c2, c3, c4, c5, c6, c7, c8, c9, c10, c11, c12, c13⟩, f5, f6, f7, f8, f9, f10, f11, f12, f13⟩ := HT.out.box.at7
      replace c5 : ((((w4.setCell ⟨wd.heap.size, 0, none⟩ (.int .i64 W)).setCell ⟨wd.heap.size, 1, none⟩ (.int .i64 L)).setCell ⟨wd.heap.size, 2, none⟩ (.int .i64 H)).alloc (.cells #[.int .i64 W, .int .i64 L, .int .i64 H] 206)).cell? ⟨g, 5, none⟩ = some (.int .i64 r.place) := c5
      clear HR HD hmd hb7 Hbd
      go_upto_region 8 with fail
      generalize ((((w4.setCell ⟨wd.heap.size, 0, none⟩ (.int .i64 W)).setCell ⟨wd.heap.size, 1, none⟩ (.int .i64 L)).setCell ⟨wd.heap.size, 2, none⟩ (.int .i64 H)).alloc (.cells #[.int .i64 W, .int .i64 L, .int .i64 H] 206)) = wt at hu7 HT hmt c0 c1 c2 c3 c4 c5 c6 c7 c8 c9 c10 c11 c12 c13 f5 f6 f7 f8 f9 f10 f11 f12 f13 ⊢
      clear hu4 z0 z1 z2 y0 y1 y2 hba4 hu7 hu4l hz4 hgd hbl hbd
      go_wp2_with fail
      refine (l12Fail_any 5 ((r.place : Int) + b) _).mono ?_
      rintro e w6 ⟨rfl, hb6⟩
      have H6 := Lib.hid (HT.out.below hb6)
      have hm6 := hmt.trans (Moved.of_below hb6)
      clear c0 c1 c2 c3 c4 c5 c6 c7 c8 c9 c10 c11 c12 c13 f5 f6 f7 f8 f9 f10 f11 f12 f13 hb6 HT hmt
      obtain ⟨⟨c0, c1, c2, c3, c4, c5, c6, c7, c8, c9, c10, c11, c12, c13⟩, f5, f6, f7, f8, f9, f10, f11, f12, f13⟩ := H6.out.box.at7
      have H7 := Lib.hid (H6.out.bad 5 ((r.place : Int) + b))
      have hm7 : Moved g o o1 w (((((((w6.setCell ⟨g, 7, none⟩ (.int .i64 10)).setCell ⟨g, 8, none⟩ (.int .i64 0)).setCell ⟨g, 9, none⟩ (.int .u64 0)).setCell ⟨g, 10, none⟩ (.int .i64 0)).setCell ⟨g, 11, none⟩ (.string ⟨#[]⟩)).setCell ⟨g, 12, none⟩ (.int .i64 5)).setCell ⟨g, 13, none⟩ (.int .i64 ((r.place : Int) + b))) := by
        repeat (first | with_reducible exact hm6 | refine Moved.setCell ?_ Hg.out _ _)
      go_upto_region 10 with fail
      generalize (((((((w6.setCell ⟨g, 7, none⟩ (.int .i64 10)).setCell ⟨g, 8, none⟩ (.int .i64 0)).setCell ⟨g, 9, none⟩ (.int .u64 0)).setCell ⟨g, 10, none⟩ (.int .i64 0)).setCell ⟨g, 11, none⟩ (.string ⟨#[]⟩)).setCell ⟨g, 12, none⟩ (.int .i64 5)).setCell ⟨g, 13, none⟩ (.int .i64 ((r.place : Int) + b))) = w7 at H7 hm7 ⊢
      clear H6 hm6 c0 c1 c2 c3 c4 c5 c6 c7 c8 c9 c10 c11 c12 c13 f5 f6 f7 f8 f9 f10 f11 f12 f13 hbsz hwb hb0
      have hxs : (t.extract 0 b).size = b := by rw [ba_extract_size _ _ _ (by have := hbt.out; omega)]; rfl
      generalize t.extract 0 b = tx at HRt hxs ⊢
      by_cases h0 : tx.size = 0
      · have hE := isEmpty_of h0
        have HRf : Hid ((r.tell (openE A1 n)).bad 5 ((r.place : Int) + b) = R) := Lib.hid (by rw [← HRt.out]; unfold rdPart; rw [if_pos h0])
        obtain ⟨⟨c0, c1, c2, c3, c4, c5, c6, c7, c8, c9, c10, c11, c12, c13⟩, f5, f6, f7, f8, f9, f10, f11, f12, f13⟩ := H7.out.box.at7
        replace c7 : w7.cell? ⟨g, 7, none⟩ = some (.int .i64 10) := c7
        clear h0 hxs
        go_wp2_with fail
        go_end0
        exact ⟨rfl, o1, by rw [← HRf.out]; exact H7.out, hm7⟩
      · have hE := notEmpty_of h0
        have HRf : Hid (((r.tell (openE A1 n)).bad 5 ((r.place : Int) + b)).tell (partE tx) = R) := Lib.hid (by rw [← HRt.out]; unfold rdPart; rw [if_neg h0]; rfl)
        clear h0 hxs
        go_wp2_with fail
        refine (l12Tell_any g u sch A B C s o1 ((r.tell (openE A1 n)).bad 5 ((r.place : Int) + b)) (partE tx) _ H7.out (by have := Hl.out; simp only [RdM.bad, RdM.tell, List.length_append, List.length_singleton]; omega)).mono ?_
        rintro e w8 ⟨rfl, o8, h8, hm8⟩
        have H8 := Lib.hid h8
        have hm9 := hm7.trans hm8
        clear h8 hm8
        obtain ⟨⟨c0, c1, c2, c3, c4, c5, c6, c7, c8, c9, c10, c11, c12, c13⟩, f5, f6, f7, f8, f9, f10, f11, f12, f13⟩ := H8.out.box.at7
        replace c7 : w8.cell? ⟨g, 7, none⟩ = some (.int .i64 10) := c7
        go_wp2_with fail
        go_end0
        exact ⟨rfl, o8, by rw [← HRf.out]; exact H8.out, hm9⟩
  · have hkb := neI hk
    have HRt : Hid (rdEnd s n t ((0, 0, 0), none) (rdPart t (r.tell (openE A1 n))) = R) := Lib.hid (by rw [← HR.out, utfOf_other hk]; rfl)
    have HT := Lib.hid (HD.out.below hba)
    have hmt := hmd.trans (Moved.of_below hba)
    clear hk HR HD hmd
    go_upto_region 10 with fail
    generalize wd.alloc (.cells #[.int .i64 0, .int .i64 0, .int .i64 0] 206) = wt at hu HT hmt ⊢
    generalize wd.heap.size = gu at hu hgu hou ⊢
    clear x0 x1 x2 x3 x4 hbd hbl hba
    obtain ⟨W, L, H, hu, HRt⟩ : ∃ W L H : Int, Box wt gu [.int .i64 W, .int .i64 L, .int .i64 H] ∧ Hid (rdEnd s n t ((W, L, H), none) (rdPart t (r.tell (openE A1 n))) = R) := ⟨0, 0, 0, hu, HRt⟩
    by_cases h0 : t.size = 0
    · have hE := isEmpty_of h0
      have hu2 := hu
      obtain ⟨⟨c0, c1, c2, c3, c4, c5, c6, c7, c8, c9, c10, c11, c12, c13⟩, f5, f6, f7, f8, f9, f10, f11, f12, f13⟩ := HT.out.box.at7
      replace c5 : wt.cell? ⟨g, 5, none⟩ = some (.int .i64 r.place) := c5
      replace c7 : wt.cell? ⟨g, 7, none⟩ = some (.int .i64 0) := by rw [← Hr.out]; exact c7
      have H0 := Lib.hid h0
      clear h0
      have hbw := hu2
      by_cases hlt : t.size < n
      · have hlti : (t.size : Int) < (n : Int) := by omega
        have HRf : Hid ((r.tell (openE A1 n)).bad 10 s.size = R) := Lib.hid (by rw [← HRt.out]; unfold rdEnd; simp only; rw [if_pos hlt]; unfold rdPart; rw [if_pos H0.out] <;> rfl)
        go_wp2_with fail
        refine (l12Fail_any 10 s.size _).mono ?_
        rintro e w6 ⟨rfl, hb6⟩
        have H6 := Lib.hid ((HT).out.below hb6)
        have hm6 := (hmt).trans (Moved.of_below hb6)
        clear c0 c1 c2 c3 c4 c5 c6 c7 c8 c9 c10 c11 c12 c13 f5 f6 f7 f8 f9 f10 f11 f12 f13 hb6
        obtain ⟨⟨c0, c1, c2, c3, c4, c5, c6, c7, c8, c9, c10, c11, c12, c13⟩, f5, f6, f7, f8, f9, f10, f11, f12, f13⟩ := H6.out.box.at7
        go_wp2_with fail
        go_end0
        refine ⟨rfl, o1, by rw [← HRf.out]; exact H6.out.bad 10 s.size, ?_⟩
        repeat (first | with_reducible exact hm6 | refine Moved.setCell ?_ Hg.out _ _)
      · have hltb : decide (t.size < n) = false := decide_eq_false hlt
        have hltb2 : decide ((t.size : Int) < (n : Int)) = false := decide_eq_false (by omega)
        have htn : t.size = n := by have := HS.out.1; omega
        obtain ⟨u0, u1, u2, v0, v1, v2⟩ := hbw.three
        have hple : Hid (r.place + n ≤ s.size) := Lib.hid (by have := HM.out; omega)
        by_cases hW : 0 < W
        · have HRf : Hid ((r.tell (openE A1 n)).bad 5 ((r.place + n : Nat) : Int) = R) := Lib.hid (by rw [← HRt.out]; unfold rdEnd; simp only; rw [if_neg hlt, if_pos hW]; unfold rdPart; rw [if_pos H0.out] <;> rfl)
          clear htn
          go_wp2_with fail
          refine (l12Fail_any 5 ((r.place + n : Nat) : Int) _).mono ?_
          rintro e w6 ⟨rfl, hb6⟩
          have H6 := Lib.hid ((HT).out.below hb6)
          have hm6 := (hmt).trans (Moved.of_below hb6)
          clear c0 c1 c2 c3 c4 c5 c6 c7 c8 c9 c10 c11 c12 c13 f5 f6 f7 f8 f9 f10 f11 f12 f13 hb6
          obtain ⟨⟨c0, c1, c2, c3, c4, c5, c6, c7, c8, c9, c10, c11, c12, c13⟩, f5, f6, f7, f8, f9, f10, f11, f12, f13⟩ := H6.out.box.at7
          go_wp2_with fail
          go_end0
          refine ⟨rfl, o1, by rw [← HRf.out]; exact H6.out.bad 5 ((r.place + n : Nat) : Int), ?_⟩
          repeat (first | with_reducible exact hm6 | refine Moved.setCell ?_ Hg.out _ _)
        · have hWb : decide (0 < W) = false := decide_eq_false hW
          have HRf : Hid (((r.tell (openE A1 n)).to (r.place + n)).tell shutE = R) := Lib.hid (by rw [← HRt.out]; unfold rdEnd; simp only; rw [if_neg hlt, if_neg hW]; unfold rdPart; rw [if_pos H0.out] <;> rfl)
          have H6 := Lib.hid ((HT).out.to (r.place + n) hple.out)
          have hm6 := (hmt).setCell Hg.out 5 (.int .i64 ((r.place + n : Nat) : Int))
          clear htn
          go_wp2_with fail
          refine (l12Tell_any g u sch A B C s o1 ((r.tell (openE A1 n)).to (r.place + n)) shutE _ H6.out (by have := Hl.out; simp only [RdM.to, RdM.tell, List.length_append, List.length_singleton]; omega)).mono ?_
          rintro e w7 ⟨rfl, o7, h7, hm7⟩
          have H7 := Lib.hid h7
          clear h7
          go_wp2_with fail
          go_end0
          exact ⟨rfl, o7, by rw [← HRf.out]; exact H7.out, hm6.trans hm7⟩
    · have hE := notEmpty_of h0
      have H0 := Lib.hid h0
      clear h0
      go_wp2_with fail
      refine (l12Tell_any g u sch A B C s o1 (r.tell (openE A1 n)) (partE t) _ HT.out (by have := Hl.out; simp only [RdM.tell, List.length_append, List.length_singleton]; omega)).mono ?_
      rintro e w5 ⟨rfl, o5, h5, hm5⟩
      have H5 := Lib.hid h5
      have hmt5 := hmt.trans hm5
      have hu2 := hm5.box hu hgu hou
      clear h5 hm5 hu
      obtain ⟨⟨c0, c1, c2, c3, c4, c5, c6, c7, c8, c9, c10, c11, c12, c13⟩, f5, f6, f7, f8, f9, f10, f11, f12, f13⟩ := H5.out.box.at7
      replace c5 : w5.cell? ⟨g, 5, none⟩ = some (.int .i64 r.place) := c5
      replace c7 : w5.cell? ⟨g, 7, none⟩ = some (.int .i64 0) := by rw [← Hr.out]; exact c7
      have hbw := hu2
      by_cases hlt : t.size < n
      · have hlti : (t.size : Int) < (n : Int) := by omega
        have HRf : Hid (((r.tell (openE A1 n)).tell (partE t)).bad 10 s.size = R) := Lib.hid (by rw [← HRt.out]; unfold rdEnd; simp only; rw [if_pos hlt]; unfold rdPart; rw [if_neg H0.out] <;> rfl)
        go_wp2_with fail
        refine (l12Fail_any 10 s.size _).mono ?_
        rintro e w6 ⟨rfl, hb6⟩
        have H6 := Lib.hid ((H5).out.below hb6)
        have hm6 := (hmt5).trans (Moved.of_below hb6)
        clear c0 c1 c2 c3 c4 c5 c6 c7 c8 c9 c10 c11 c12 c13 f5 f6 f7 f8 f9 f10 f11 f12 f13 hb6
        obtain ⟨⟨c0, c1, c2, c3, c4, c5, c6, c7, c8, c9, c10, c11, c12, c13⟩, f5, f6, f7, f8, f9, f10, f11, f12, f13⟩ := H6.out.box.at7
        go_wp2_with fail
        go_end0
        refine ⟨rfl, o5, by rw [← HRf.out]; exact H6.out.bad 10 s.size, ?_⟩
        repeat (first | with_reducible exact hm6 | refine Moved.setCell ?_ Hg.out _ _)
      · have hltb : decide (t.size < n) = false := decide_eq_false hlt
        have hltb2 : decide ((t.size : Int) < (n : Int)) = false := decide_eq_false (by omega)
        have htn : t.size = n := by have := HS.out.1; omega
        obtain ⟨u0, u1, u2, v0, v1, v2⟩ := hbw.three
        have hple : Hid (r.place + n ≤ s.size) := Lib.hid (by have := HM.out; omega)
        by_cases hW : 0 < W
        · have HRf : Hid (((r.tell (openE A1 n)).tell (partE t)).bad 5 ((r.place + n : Nat) : Int) = R) := Lib.hid (by rw [← HRt.out]; unfold rdEnd; simp only; rw [if_neg hlt, if_pos hW]; unfold rdPart; rw [if_neg H0.out] <;> rfl)
          clear htn
          go_wp2_with fail
          refine (l12Fail_any 5 ((r.place + n : Nat) : Int) _).mono ?_
          rintro e w6 ⟨rfl, hb6⟩
          have H6 := Lib.hid ((H5).out.below hb6)
          have hm6 := (hmt5).trans (Moved.of_below hb6)
          clear c0 c1 c2 c3 c4 c5 c6 c7 c8 c9 c10 c11 c12 c13 f5 f6 f7 f8 f9 f10 f11 f12 f13 hb6
          obtain ⟨⟨c0, c1, c2, c3, c4, c5, c6, c7, c8, c9, c10, c11, c12, c13⟩, f5, f6, f7, f8, f9, f10, f11, f12, f13⟩ := H6.out.box.at7
          go_wp2_with fail
          go_end0
          refine ⟨rfl, o5, by rw [← HRf.out]; exact H6.out.bad 5 ((r.place + n : Nat) : Int), ?_⟩
          repeat (first | with_reducible exact hm6 | refine Moved.setCell ?_ Hg.out _ _)
        · have hWb : decide (0 < W) = false := decide_eq_false hW
          have HRf : Hid ((((r.tell (openE A1 n)).tell (partE t)).to (r.place + n)).tell shutE = R) := Lib.hid (by rw [← HRt.out]; unfold rdEnd; simp only; rw [if_neg hlt, if_neg hW]; unfold rdPart; rw [if_neg H0.out] <;> rfl)
          have H6 := Lib.hid ((H5).out.to (r.place + n) hple.out)
          have hm6 := (hmt5).setCell Hg.out 5 (.int .i64 ((r.place + n : Nat) : Int))
          clear htn
          go_wp2_with fail
          refine (l12Tell_any g u sch A B C s o5 (((r.tell (openE A1 n)).tell (partE t)).to (r.place + n)) shutE _ H6.out (by have := Hl.out; simp only [RdM.to, RdM.tell, List.length_append, List.length_singleton]; omega)).mono ?_
          rintro e w7 ⟨rfl, o7, h7, hm7⟩
          have H7 := Lib.hid h7
          clear h7
          go_wp2_with fail
          go_end0
          exact ⟨rfl, o7, by rw [← HRf.out]; exact H7.out, hm6.trans hm7⟩
end Go.Proofs.YtpkofbdfnbpfpaaGreat.Num


/-
  Plain facts on a message that is read: how far, how much is told, that what went wrong stays.
-/
namespace Go.Proofs.YtpkofbdfnbpfpaaGreat.Num
open Go.RowKit Go.Proofs
set_option linter.unusedVariables false

theorem rdVar_cases {s : ByteArray} {E : Int} {r : RdM} (hp : r.place ≤ s.size) : (∃ c a, c ≠ 0 ∧ rdVar s E r = (0, r.bad c a)) ∨ ∃ P U : Nat, rdVar s E r = ((U : Int), r.to P) ∧ r.place < P ∧ P ≤ s.size ∧ (P : Int) ≤ E ∧ U < 18446744073709551616 := by
  unfold rdVar
  by_cases hb : (withinR s r.place E).2.2 = 0
  · rw [if_neg (fun h => h hb)]
    obtain ⟨P, h1, h2, h3, h4, U, h5, h6⟩ := within_range (v := (withinR s r.place E).1) (p := (withinR s r.place E).2.1) (b := (withinR s r.place E).2.2) hp rfl hb
    exact .inr ⟨P, U, by rw [h1, h5, Int.toNat_natCast], h2, h3, h4, h6⟩
  · rw [if_pos hb]; exact .inl ⟨_, _, hb, rfl⟩
theorem rdFix_cases {s : ByteArray} {W E : Int} {r : RdM} : (∃ c a, c ≠ 0 ∧ rdFix s W E r = (0, r.bad c a)) ∨ ∃ U N : Nat, rdFix s W E r = ((U : Int), r.to (r.place + N)) ∧ (N = 4 ∨ N = 8) ∧ r.place + N ≤ s.size ∧ ((r.place + N : Nat) : Int) ≤ E := by
  unfold rdFix
  split
  · exact .inl ⟨9, _, by omega, rfl⟩
  · next he =>
    split
    · exact .inl ⟨10, _, by omega, rfl⟩
    · next hf =>
      by_cases h : (W = 4 ∨ W = 8) ∧ 0 ≤ (r.place : Int) ∧ (r.place : Int) ≤ s.size - W
      · refine .inr ⟨_, W.toNat, rfl, by omega, by omega, by omega⟩
      · exact absurd (by rw [getFix_no h]) hf
/-- What a step does to a reader that did not fail: it fails and stands, or goes on; what is told is no more than the bytes allow. -/
structure Adv (s : ByteArray) (E : Int) (r r' : RdM) : Prop where
  le : r.place ≤ r'.place
  inn : r'.place ≤ s.size
  upto : (r'.place : Int) ≤ E
  len : r'.out.length + 4 * r.place ≤ r.out.length + 4 * r'.place
  ok : r'.fail.kind = 0 → r'.fail = r.fail
section
variable {s : ByteArray} {E : Int} {r r' r'' : RdM}
theorem Adv.refl (hp : r.place ≤ s.size) (hE : (r.place : Int) ≤ E) : Adv s E r r := ⟨Nat.le_refl _, hp, hE, Nat.le_refl _, fun _ => rfl⟩
theorem Adv.bad (hp : r.place ≤ s.size) (hE : (r.place : Int) ≤ E) (c a : Int) : Adv s E r (r.bad c a) := ⟨Nat.le_refl _, hp, hE, Nat.le_refl _, fun h => by have h' : (10 : Int) = 0 := h; omega⟩
theorem Adv.trans (h : Adv s E r r') (k : Adv s E r' r'') (hk : r''.fail.kind = 0 → r'.fail.kind = 0) : Adv s E r r'' := ⟨Nat.le_trans h.le k.le, k.inn, k.upto, by have := h.len; have := k.len; omega, fun e => (k.ok e).trans (h.ok (hk e))⟩
theorem Adv.wide {E' : Int} (h : Adv s E r r') (hE : E ≤ E') : Adv s E' r r' := ⟨h.le, h.inn, by have := h.upto; omega, h.len, h.ok⟩
end
theorem bad_kind (r : RdM) (c a : Int) : (r.bad c a).fail.kind = 10 := rfl
/-- A number: it fails, or goes on, and one event is told at most. -/
theorem rdNum_adv {s : ByteArray} {f : RF} {x E : Int} {r : RdM} (hp : r.place ≤ s.size) (hE : (r.place : Int) ≤ E) : Adv s E r (rdNum s f x E r) ∧ ((rdNum s f x E r).fail.kind = 0 → r.place < (rdNum s f x E r).place) := by
  have key : ∀ q : Int × RdM, ((∃ c a, c ≠ 0 ∧ q = (0, r.bad c a)) ∨ ∃ P U : Nat, q = ((U : Int), r.to P) ∧ r.place < P ∧ P ≤ s.size ∧ (P : Int) ≤ E) → Adv s E r (rdTold f q) ∧ ((rdTold f q).fail.kind = 0 → r.place < (rdTold f q).place) := by
    intro q hq
    rcases hq with ⟨c, a, _, rfl⟩ | ⟨P, U, rfl, h1, h2, h3⟩
    · unfold rdTold
      simp only
      rw [if_neg (fun h => by have h' := h.1; rw [bad_kind] at h'; omega)]
      exact ⟨.bad hp hE c a, fun h => by rw [bad_kind] at h; omega⟩
    · unfold rdTold
      simp only
      split
      · refine ⟨⟨by show r.place ≤ P; omega, h2, h3, ?_, fun _ => rfl⟩, fun _ => h1⟩
        show (r.out ++ [_]).length + 4 * r.place ≤ r.out.length + 4 * P
        rw [List.length_append, List.length_singleton]; omega
      · exact ⟨⟨by show r.place ≤ P; omega, h2, h3, by show r.out.length + _ ≤ r.out.length + 4 * P; omega, fun _ => rfl⟩, fun _ => h1⟩
  unfold rdNum rdRaw
  split
  · refine key _ ?_
    rcases rdVar_cases (E := E) hp with ⟨c, a, h0, h⟩ | ⟨P, U, h, h1, h2, h3, _⟩
    · exact .inl ⟨c, a, h0, h⟩
    · exact .inr ⟨P, U, h, h1, h2, h3⟩
  · refine key _ ?_
    rcases rdFix_cases (s := s) (W := widthR x) (E := E) (r := r) with ⟨c, a, h0, h⟩ | ⟨U, N, h, h1, h2, h3⟩
    · exact .inl ⟨c, a, h0, h⟩
    · exact .inr ⟨r.place + N, U, h, by omega, h2, h3⟩
theorem rdRun_adv {s : ByteArray} {f : RF} {E : Int} : ∀ (n : Nat) (r : RdM), r.place ≤ s.size → (r.place : Int) ≤ E → Adv s E r (rdRun s f E n r)
  | 0, r, hp, hE => .refl hp hE
  | n + 1, r, hp, hE => by
    by_cases h : (r.place : Int) < E ∧ r.fail.kind = 0
    · rw [rdRun_more h]
      obtain ⟨h1, h2⟩ := rdNum_adv (s := s) (f := f) (x := wireR f.2.1) (E := E) (r := r) hp hE
      refine h1.trans (rdRun_adv n _ h1.inn h1.upto) fun hk => ?_
      by_cases h3 : (rdNum s f (wireR f.2.1) E r).fail.kind = 0
      · exact h3
      · rw [rdRun_end (fun h => h3 h.2)] at hk; exact hk
    · rw [rdRun_end h]; exact .refl hp hE
theorem rdPart_place (t : ByteArray) (r : RdM) : (rdPart t r).place = r.place ∧ (rdPart t r).fail = r.fail ∧ (rdPart t r).out.length ≤ r.out.length + 1 := by
  unfold rdPart
  split
  · exact ⟨rfl, rfl, Nat.le_succ _⟩
  · refine ⟨rfl, rfl, ?_⟩
    show (r.out ++ [_]).length ≤ _
    rw [List.length_append, List.length_singleton]; exact Nat.le_refl _
theorem there_full {s : ByteArray} {p n : Nat} (h : ¬ (thereB s p n).size < n) (hn : 0 < n ∨ p ≤ s.size) : p + n ≤ s.size := by
  unfold thereB at h
  rw [ba_extract_size _ _ _ (by omega)] at h
  omega
/-- A text: it fails and stands, or stands behind it. -/
theorem rdPayload_adv {s : ByteArray} {f : RF} {m : Nat} {r : RdM} (hp : r.place ≤ s.size) : ((∃ c a X, (rdPayload s f m r) = ⟨r.place, r.out ++ X, failE c a⟩ ∧ X.length ≤ 2) ∨ ∃ X, rdPayload s f m r = ⟨r.place + m, r.out ++ X, r.fail⟩ ∧ r.place + m ≤ s.size ∧ X.length ≤ 3) := by
  unfold rdPayload
  generalize utfOf f.2.1 (thereB s r.place m) = q
  obtain ⟨st, off⟩ := q
  have hX : ∀ T, ∃ X : List Ev, rdPart T (r.tell (openE f.1 m)) = ⟨r.place, r.out ++ X, r.fail⟩ ∧ X.length ≤ 2 := by
    intro T
    unfold rdPart
    split
    · exact ⟨[openE f.1 m], rfl, by simp⟩
    · exact ⟨[openE f.1 m, partE T], by simp [RdM.tell], by simp⟩
  obtain ⟨X, h1, h2⟩ := hX (frontB (thereB s r.place m) off)
  simp only
  rw [h1]
  unfold rdEnd
  cases off with
  | some b => exact .inl ⟨5, _, X, rfl, h2⟩
  | none =>
    simp only
    split
    · exact .inl ⟨10, _, X, rfl, h2⟩
    · next hlt =>
      split
      · exact .inl ⟨5, _, X, rfl, h2⟩
      · refine .inr ⟨X ++ [shutE], by simp [RdM.tell, RdM.to], there_full hlt (.inr hp), by simp; omega⟩
/-- How a reader of messages advances. -/
def AdvM (s : ByteArray) (M : Int → Int → Int → RdM → RdM) : Prop := ∀ sh E d r, r.place ≤ s.size → (r.place : Int) ≤ E → Adv s E r (M sh E d r)
theorem rdBody_adv {M : Int → Int → Int → RdM → RdM} {n : Nat} {s : ByteArray} {D : Int} {f : RF} {start m : Nat} {E deep : Int} {r : RdM} (hM : AdvM s M) (hp : r.place ≤ s.size) (hE : ((r.place + m : Nat) : Int) ≤ E) (hs : start < r.place) :
    (rdBody M n s D f start m deep r).place ≤ s.size ∧ r.place ≤ (rdBody M n s D f start m deep r).place ∧ ((rdBody M n s D f start m deep r).place : Int) ≤ E ∧ (rdBody M n s D f start m deep r).out.length + 4 * r.place ≤ r.out.length + 4 * (rdBody M n s D f start m deep r).place + 4 ∧ ((rdBody M n s D f start m deep r).fail.kind = 0 → (rdBody M n s D f start m deep r).fail = r.fail) := by
  have hbad : ∀ c a, (r.bad c a).place ≤ s.size ∧ r.place ≤ (r.bad c a).place ∧ ((r.bad c a).place : Int) ≤ E ∧ (r.bad c a).out.length + 4 * r.place ≤ r.out.length + 4 * (r.bad c a).place + 4 ∧ ((r.bad c a).fail.kind = 0 → (r.bad c a).fail = r.fail) := fun c a => ⟨hp, Nat.le_refl _, by show (r.place : Int) ≤ E; omega, by show r.out.length + _ ≤ _ + 4 * r.place + 4; omega, fun h => by rw [bad_kind] at h; omega⟩
  unfold rdBody
  split
  · split
    · exact hbad 10 _
    · next h =>
      refine ⟨by show r.place + m ≤ s.size; omega, by show r.place ≤ r.place + m; omega, hE, by show r.out.length + _ ≤ _ + 4 * (r.place + m) + 4; omega, fun _ => rfl⟩
  · split
    · split
      · exact hbad 6 _
      · have h := hM f.2.2.2.2 ((r.place + m : Nat) : Int) (deep + 1) (r.tell (downE f.1 m)) hp (by show (r.place : Int) ≤ _; omega)
        have hl := h.len
        have hlo : (r.tell (downE f.1 m)).out.length = r.out.length + 1 := by show (r.out ++ [_]).length = _; rw [List.length_append]; rfl
        have hpl : (r.tell (downE f.1 m)).place = r.place := rfl
        have hfl : (r.tell (downE f.1 m)).fail = r.fail := rfl
        have h1 := h.le
        have h2 := h.inn
        have h3 := h.upto
        have h4 := h.ok
        rw [hpl] at h1 hl
        rw [hlo] at hl
        rw [hfl] at h4
        have h3' : ((M f.2.2.2.2 ((r.place + m : Nat) : Int) (deep + 1) (r.tell (downE f.1 m))).place : Int) ≤ E := by omega
        split
        · refine ⟨h2, h1, h3', ?_, h4⟩
          show (_ ++ [upE]).length + _ ≤ _
          rw [List.length_append, List.length_singleton]
          show _ ≤ r.out.length + 4 * (M f.2.2.2.2 ((r.place + m : Nat) : Int) (deep + 1) (r.tell (downE f.1 m))).place + 4
          omega
        · exact ⟨h2, h1, by omega, by omega, h4⟩
    · split
      · rcases rdPayload_adv (s := s) (f := f) (m := m) hp with ⟨c, a, X, h, hx⟩ | ⟨X, h, h1, hx⟩
        · rw [h]
          refine ⟨hp, Nat.le_refl _, by show (r.place : Int) ≤ E; omega, ?_, fun hk => ?_⟩
          · show (r.out ++ X).length + _ ≤ _ + 4 * r.place + 4; rw [List.length_append]; omega
          · have hk' : (10 : Int) = 0 := hk; omega
        · rw [h]
          refine ⟨h1, Nat.le_add_right _ _, hE, ?_, fun _ => rfl⟩
          show (r.out ++ X).length + _ ≤ _ + 4 * (r.place + m) + 4; rw [List.length_append]; omega
      · have h := rdRun_adv (s := s) (f := f) (E := ((r.place + m : Nat) : Int)) n r hp (by omega)
        exact ⟨h.inn, h.le, by have := h.upto; omega, by have := h.len; omega, h.ok⟩
theorem rdLong_adv {M : Int → Int → Int → RdM → RdM} {n : Nat} {s : ByteArray} {D : Int} {f : RF} {E deep : Int} {r : RdM} (hM : AdvM s M) (hp : r.place ≤ s.size) (hE : (r.place : Int) ≤ E) (hr : r.fail.kind = 0) : Adv s E r (rdLong M n s D f E deep r) := by
  unfold rdLong rdLong2
  rcases rdVar_cases (E := E) hp with ⟨c, a, h0, h⟩ | ⟨P, U, h, h1, h2, h3, _⟩
  · rw [h]; simp only
    rw [if_pos (by rw [bad_kind]; omega)]; exact .bad hp hE c a
  · rw [h]; simp only
    rw [if_neg (by intro h; exact h hr)]
    split
    · exact ⟨by show r.place ≤ P; omega, h2, h3, by show r.out.length + _ ≤ r.out.length + 4 * P; omega, fun hk => by have hk' : (10 : Int) = 0 := hk; omega⟩
    · next hlt =>
      have hlt' : (U : Int) ≤ E - (P : Int) := by have h5 : ¬ E - (P : Int) < (U : Int) := hlt; omega
      have hPm : ((P + U : Nat) : Int) ≤ E := by omega
      obtain ⟨k1, k2, k3, k4, k5⟩ := rdBody_adv (n := n) (D := D) (f := f) (m := U) (deep := deep) (start := r.place) (r := r.to P) hM h2 hPm h1
      rw [Int.toNat_natCast]
      have hpl : (r.to P).place = P := rfl
      have hol : (r.to P).out = r.out := rfl
      rw [hpl] at k2 k4
      rw [hol] at k4
      exact ⟨by omega, k1, k3, by omega, k5⟩
theorem rdStep_adv {M : Int → Int → Int → RdM → RdM} {n : Nat} {s : ByteArray} {sch : List RM} {D shape E deep : Int} {r : RdM} (hM : AdvM s M) (hp : r.place ≤ s.size) (hE : (r.place : Int) ≤ E) (hr : r.fail.kind = 0) : Adv s E r (rdStep M n s sch D shape E deep r) ∧ ((rdStep M n s sch D shape E deep r).fail.kind = 0 → r.place < (rdStep M n s sch D shape E deep r).place) := by
  unfold rdStep
  rcases rdVar_cases (E := E) hp with ⟨c, a, h0, h⟩ | ⟨P, U, h, h1, h2, h3, _⟩
  · rw [h]; simp only
    rw [if_pos (by rw [bad_kind]; omega)]
    exact ⟨.bad hp hE c a, fun h => by rw [bad_kind] at h; omega⟩
  · rw [h]; simp only
    rw [if_neg (by intro h; exact h hr)]
    have hto : Adv s E r (r.to P) := ⟨by show r.place ≤ P; omega, h2, h3, by show r.out.length + _ ≤ r.out.length + 4 * P; omega, fun _ => rfl⟩
    have hb : ∀ c a, Adv s E r ((r.to P).bad c a) ∧ (((r.to P).bad c a).fail.kind = 0 → r.place < ((r.to P).bad c a).place) := fun c a => ⟨⟨by show r.place ≤ P; omega, h2, h3, by show r.out.length + _ ≤ r.out.length + 4 * P; omega, fun hk => by rw [bad_kind] at hk; omega⟩, fun hk => by rw [bad_kind] at hk; omega⟩
    unfold rdTag2
    split
    · exact hb 2 _
    · split
      · exact hb 3 _
      · split
        · exact hb 4 _
        · split
          · have k := rdLong_adv (n := n) (D := D) (f := (fieldAtR sch shape (tagInR (U : Int).toNat).1).1) (deep := deep) (r := r.to P) hM h2 h3 hr
            exact ⟨hto.trans k fun _ => hr, fun _ => by have := k.le; have e : (r.to P).place = P := rfl; omega⟩
          · obtain ⟨k, _⟩ := rdNum_adv (s := s) (f := (fieldAtR sch shape (tagInR (U : Int).toNat).1).1) (x := (tagInR (U : Int).toNat).2.1) (E := E) (r := r.to P) h2 h3
            exact ⟨hto.trans k fun _ => hr, fun _ => by have := k.le; have e : (r.to P).place = P := rfl; omega⟩
theorem msgRd_adv {s : ByteArray} {sch : List RM} {D : Int} : ∀ (n : Nat), AdvM s (msgRd s sch D n)
  | 0 => fun sh E d r hp hE => .refl hp hE
  | n + 1 => fun sh E d r hp hE => by
    by_cases h : (r.place : Int) < E ∧ r.fail.kind = 0
    · rw [msgRd_more h]
      obtain ⟨h1, h2⟩ := rdStep_adv (n := n) (sch := sch) (D := D) (shape := sh) (deep := d) (msgRd_adv n) hp hE h.2
      refine h1.trans (msgRd_adv n _ _ _ _ h1.inn h1.upto) fun hk => ?_
      by_cases h3 : (rdStep (msgRd s sch D n) n s sch D sh E d r).fail.kind = 0
      · exact h3
      · rw [msgRd_end (fun h => h3 h.2)] at hk; exact hk
    · rw [msgRd_end h]; exact .refl hp hE
end Go.Proofs.YtpkofbdfnbpfpaaGreat.Num


/-
  The walk of the reference's l12Long: a length is read, and what it tells of; a message within by the walk that is given.
-/
namespace Go.Proofs.YtpkofbdfnbpfpaaGreat.Num
open Go.RowKit Go.Proofs
set_option linter.unusedVariables false
set_option linter.unusedSimpArgs false

/-- The reader of messages, as long as fewer than n bytes are left. -/
def MsgCall (g : Nat) (u : Value) (sch : List RM) (A B C : Int) (s : ByteArray) (n : Nat) : Prop :=
  ∀ (sh E d : Int) (o : Value) (r : RdM) (w : World), RdAt w g u sch A B C s o r → r.out.length ≤ 4 * r.place → (r.place : Int) ≤ E → E ≤ 9223372036854775807 → s.size - r.place < n → 1 ≤ d ∧ d ≤ 8 →
    Calls Tryz.prog 66 #[.pointer (some ⟨g, 0, none⟩), .int .i64 sh, .int .i64 E, .int .i64 d] w fun e w' => e = .returned (.tuple #[]) ∧ ∃ o', RdAt w' g u sch A B C s o' (msgRd s sch B n sh E d r) ∧ Moved g o o' w w'
set_option maxHeartbeats 8000000 in
set_option maxRecDepth 100000 in
theorem l12Long_any (n : Nat) (g : Nat) (u : Value) (sch : List RM) (A B C : Int) (f : RF) (s : ByteArray) (IH : MsgCall g u sch A B C s n) (E deep : Int) (o : Value) (r : RdM) (w : World) (h : RdAt w g u sch A B C s o r) (hl : r.out.length ≤ 4 * r.place) (hr : r.fail.kind = 0) (hE : (r.place : Int) ≤ E ∧ E ≤ 9223372036854775807) (hfu : s.size - r.place < n) (hd : 1 ≤ deep ∧ deep ≤ 8) (hB : B ≤ 8) (hs : s.size ≤ 200000000) :
    Calls Tryz.prog 106 #[.pointer (some ⟨g, 0, none⟩), fieldV f, .int .i64 E, .int .i64 deep] w fun e w' => e = .returned (.tuple #[]) ∧ ∃ o', RdAt w' g u sch A B C s o' (rdLong (msgRd s sch B n) n s B f E deep r) ∧ Moved g o o' w w' := by
  obtain ⟨R, hR⟩ : ∃ R, rdLong (msgRd s sch B n) n s B f E deep r = R := ⟨_, rfl⟩
  rw [hR]
  have HP : Hid (∀ (n : Nat) (o : Value) (r : RdM) (w : World), RdAt w g u sch A B C s o r → (r.place + n : Nat) ≤ 9223372036854775807 → r.fail.kind = 0 → r.out.length ≤ 1048575990 → Calls Tryz.prog 141 #[.pointer (some ⟨g, 0, none⟩), fieldV f, .int .i64 n] w fun e w' => e = .returned (.tuple #[]) ∧ ∃ o', RdAt w' g u sch A B C s o' (rdPayload s f n r) ∧ Moved g o o' w w') := Lib.hid fun n o r w h1 h2 h3 h4 => l12Payload_any g u sch A B C f n s o r w h1 (by omega) h2 h3 h4
  have HNm : Hid (∀ (x E : Int) (o : Value) (r : RdM) (w : World), RdAt w g u sch A B C s o r → ((r.place : Int) ≤ E ∧ E ≤ 9223372036854775807) → r.out.length ≤ 1048576000 → Calls Tryz.prog 107 #[.pointer (some ⟨g, 0, none⟩), fieldV f, .int .i64 x, .int .i64 E] w fun e w' => e = .returned (.tuple #[]) ∧ ∃ o', RdAt w' g u sch A B C s o' (rdNum s f x E r) ∧ Moved g o o' w w') := Lib.hid fun x E o r w h1 h2 h3 => l12Num_any g u sch A B C x E f s o r w h1 (by omega) h2 h3
  obtain ⟨A1, A2, A3, A4, A5⟩ := f
  unfold rdLong at hR
  unfold fieldV at HP HNm ⊢
  simp only at HP HNm ⊢
  have hg := h.lt
  have Hg := Lib.hid hg
  have hp := h.place
  have hob : ∀ k, o.ownBlock = some k → k < w.heap.size := fun k hk => (h.out.lt k hk).2
  have hbx : Box (w.alloc (.cells #[.int .i64 A1, .int .i64 A2, .bool A3, .bool A4, .int .i64 A5] 117)) w.heap.size [.int .i64 A1, .int .i64 A2, .bool A3, .bool A4, .int .i64 A5] := Box.fresh w #[.int .i64 A1, .int .i64 A2, .bool A3, .bool A4, .int .i64 A5] _
  have hl0 : Below w.heap.size w (w.alloc (.cells #[.int .i64 A1, .int .i64 A2, .bool A3, .bool A4, .int .i64 A5] 117)) := (Below.refl _ _).alloc (Nat.le_refl _) _
  have H0 := Lib.hid (h.below hl0)
  have hm0 : Moved g o o w (w.alloc (.cells #[.int .i64 A1, .int .i64 A2, .bool A3, .bool A4, .int .i64 A5] 117)) := .of_below hl0
  have hgx : w.heap.size ≠ g := by omega
  have hox : o.ownBlock ≠ some w.heap.size := fun e => Nat.lt_irrefl _ (hob _ e)
  have HV := Lib.hid (rdVar_cases (E := E) hp)
  have Hl := Lib.hid hl
  have HR := Lib.hid hR
  have Hr := Lib.hid hr
  have HIH := Lib.hid IH
  have Hfu := Lib.hid hfu
  have Hp := Lib.hid hp
  have HE := Lib.hid hE
  obtain ⟨⟨c0, c1, c2, c3, c4, c5, c6, c7, c8, c9, c10, c11, c12, c13⟩, f5, f6, f7, f8, f9, f10, f11, f12, f13⟩ := H0.out.box.at7
  clear h hl0 hob hR hr hl IH hfu hp hE
  go_enter Tryz.func106, Tryz.ntmps106
  go_wp2_with fail
  refine (l12Var_any g u sch A B C E s o r _ H0.out (by omega)).mono ?_
  generalize w.alloc (.cells #[.int .i64 A1, .int .i64 A2, .bool A3, .bool A4, .int .i64 A5] 117) = w1 at H0 hm0 hbx ⊢
  generalize rdVar s E r = Q at HV HR ⊢
  rintro e w2 ⟨rfl, h2, hm2⟩
  have hm := hm0.trans hm2
  have hb2 := hm2.box hbx hgx hox
  generalize w.heap.size = gx at hb2 hgx hox ⊢
  clear H0 hm0 hm2 hbx c0 c1 c2 c3 c4 c5 c6 c7 c8 c9 c10 c11 c12 c13 f5 f6 f7 f8 f9 f10 f11 f12 f13
  rcases HV.out with ⟨c, a, hc, rfl⟩ | ⟨P, U, rfl, hP1, hP2, hP3, hU⟩
  · simp only at h2 HR ⊢
    have H2 := Lib.hid h2
    have HRf : Hid (r.bad c a = R) := Lib.hid (by rw [← HR.out]; unfold rdLong2; simp only; rw [if_pos (by rw [bad_kind]; omega)])
    obtain ⟨⟨c0, c1, c2, c3, c4, c5, c6, c7, c8, c9, c10, c11, c12, c13⟩, f5, f6, f7, f8, f9, f10, f11, f12, f13⟩ := H2.out.box.at7
    replace c7 : w2.cell? ⟨g, 7, none⟩ = some (.int .i64 10) := c7
    clear h2 HR HV hc
    go_wp2_with fail
    refine bodyPost_ret (results_none rfl _ _ _) rfl ?_
    exact ⟨rfl, o, by rw [← HRf.out]; exact H2.out, hm⟩
  · simp only at h2 HR ⊢
    have H2 := Lib.hid h2
    have HR1 : Hid ((if E - (P : Int) < (U : Int) then (r.to P).bad 8 r.place else rdBody (msgRd s sch B n) n s B (A1, A2, A3, A4, A5) r.place U deep (r.to P)) = R) := Lib.hid (by
      have hz : ¬ ((r.to P).fail.kind ≠ 0) := fun h => h Hr.out
      rw [← HR.out]; unfold rdLong2; simp only; rw [if_neg hz, Int.toNat_natCast]; rfl)
    obtain ⟨⟨c0, c1, c2, c3, c4, c5, c6, c7, c8, c9, c10, c11, c12, c13⟩, f5, f6, f7, f8, f9, f10, f11, f12, f13⟩ := H2.out.box.at7
    obtain ⟨⟨x0, x1, x2, x3, x4⟩, _⟩ := Box.five hb2
    replace c5 : w2.cell? ⟨g, 5, none⟩ = some (.int .i64 P) := c5
    replace c7 : w2.cell? ⟨g, 7, none⟩ = some (.int .i64 0) := by rw [← Hr.out]; exact c7
    obtain ⟨Dn, hDn⟩ : ∃ Dn : Nat, E - (P : Int) = (Dn : Int) := ⟨(E - (P : Int)).toNat, by omega⟩
    have hDnE : (Dn : Int) ≤ 9223372036854775807 := by have := HE.out; omega
    have HDE : Hid (E = ((P + Dn : Nat) : Int)) := Lib.hid (by omega)
    rw [hDn] at HR1
    have hw1 : IntKind.i64.wrap (E - (P : Int)) = (Dn : Int) := by rw [hDn]; exact IntWalk.i64_in _ (by omega)
    have hw2 : IntKind.u64.wrap (Dn : Int) = (Dn : Int) := IntWalk.u64_in _ (by omega)
    have Hlt := Lib.hid hP1
    clear h2 HR HV hDn hP3
    by_cases hlen : Dn < U
    · have hleni : (Dn : Int) < (U : Int) := by omega
      have HRf : Hid ((r.to P).bad 8 r.place = R) := Lib.hid (by rw [← HR1.out, if_pos hleni])
      go_wp2_with fail
      refine (l12Fail_any 8 r.place _).mono ?_
      rintro e w9 ⟨rfl, hb9⟩
      have H9 := Lib.hid (H2.out.below hb9)
      have hm9 := hm.trans (Moved.of_below hb9)
      clear c0 c1 c2 c3 c4 c5 c6 c7 c8 c9 c10 c11 c12 c13 f5 f6 f7 f8 f9 f10 f11 f12 f13 hb9
      obtain ⟨⟨c0, c1, c2, c3, c4, c5, c6, c7, c8, c9, c10, c11, c12, c13⟩, f5, f6, f7, f8, f9, f10, f11, f12, f13⟩ := H9.out.box.at7
      go_wp2_with fail
      refine bodyPost_ret (results_none rfl _ _ _) rfl ?_
      refine ⟨rfl, o, by rw [← HRf.out]; exact H9.out.bad 8 r.place, ?_⟩
      repeat (first | with_reducible exact hm9 | refine Moved.setCell ?_ Hg.out _ _)
    · have hle : U ≤ Dn := by omega
      have hlenb : decide (Dn < U) = false := decide_eq_false hlen
      have hlenb2 : decide ((Dn : Int) < (U : Int)) = false := decide_eq_false (by omega)
      have HR2 : Hid (rdBody (msgRd s sch B n) n s B (A1, A2, A3, A4, A5) r.place U deep (r.to P) = R) := Lib.hid (by rw [← HR1.out, if_neg (by omega)])
      have hw3 : IntKind.i64.wrap (U : Int) = (U : Int) := IntWalk.i64_in _ (by omega)
      have hw4 : IntKind.i64.wrap ((P : Int) + (U : Int)) = ((P + U : Nat) : Int) := by rw [IntWalk.i64_in _ (by have := HDE.out; have := HE.out; omega)]; omega
      have Hbn : Hid (((P + U : Nat) : Int) ≤ E ∧ E ≤ 9223372036854775807) := Lib.hid ⟨by have := HDE.out; omega, HE.out.2⟩
      clear HR1 hlen hle hw2
      by_cases hA1 : A1 = 0
      · have hA1b : (A1 == 0) = true := by simp [hA1]
        have HR3 : Hid ((if s.size - P < U then (r.to P).bad 10 s.size else (r.to P).to (P + U)) = R) := Lib.hid (by rw [← HR2.out]; unfold rdBody; simp only; rw [if_pos hA1]; rfl)
        have hw5 : IntKind.i64.wrap ((s.size : Int) - (P : Int)) = ((s.size - P : Nat) : Int) := by rw [IntWalk.i64_in _ (by omega)]; omega
        clear hA1 HR2
        by_cases hcut : s.size - P < U
        · have hcuti : ((s.size - P : Nat) : Int) < (U : Int) := by omega
          have HRf : Hid ((r.to P).bad 10 s.size = R) := Lib.hid (by rw [← HR3.out, if_pos hcut])
          go_upto_region 11 with fail
          go_quiet (fail)
          have H3 : Hid (RdAt (w2.drewN nq) g u sch A B C s o (r.to P)) := Lib.hid ⟨H2.out.box, H2.out.out, H2.out.msgs, H2.out.place⟩
          have hm3 := hm.trans (Moved.drewN g o w2 nq)
          generalize w2.drewN nq = w3 at H3 hm3 ⊢
          clear c0 c1 c2 c3 c4 c5 c6 c7 c8 c9 c10 c11 c12 c13 f5 f6 f7 f8 f9 f10 f11 f12 f13
          obtain ⟨⟨c0, c1, c2, c3, c4, c5, c6, c7, c8, c9, c10, c11, c12, c13⟩, f5, f6, f7, f8, f9, f10, f11, f12, f13⟩ := H3.out.box.at7
          go_wp2_with fail
          refine (l12Fail_any 10 s.size _).mono ?_
          rintro e w9 ⟨rfl, hb9⟩
          have H9 := Lib.hid (H3.out.below hb9)
          have hm9 := hm3.trans (Moved.of_below hb9)
          clear c0 c1 c2 c3 c4 c5 c6 c7 c8 c9 c10 c11 c12 c13 f5 f6 f7 f8 f9 f10 f11 f12 f13 hb9
          obtain ⟨⟨c0, c1, c2, c3, c4, c5, c6, c7, c8, c9, c10, c11, c12, c13⟩, f5, f6, f7, f8, f9, f10, f11, f12, f13⟩ := H9.out.box.at7
          go_wp2_with fail
          refine bodyPost_ret (results_none rfl _ _ _) rfl ?_
          refine ⟨rfl, o, by rw [← HRf.out]; exact H9.out.bad 10 s.size, ?_⟩
          repeat (first | with_reducible exact hm9 | refine Moved.setCell ?_ Hg.out _ _)
        · have hcutb : decide (s.size - P < U) = false := decide_eq_false hcut
          have hcutb2 : decide (((s.size - P : Nat) : Int) < (U : Int)) = false := decide_eq_false (by omega)
          have hPU : P + U ≤ s.size := by omega
          have HRf : Hid ((r.to P).to (P + U) = R) := Lib.hid (by rw [← HR3.out, if_neg hcut])
          go_upto_region 11 with fail
          go_quiet (fail)
          have H3 : Hid (RdAt (w2.drewN nq) g u sch A B C s o (r.to P)) := Lib.hid ⟨H2.out.box, H2.out.out, H2.out.msgs, H2.out.place⟩
          have hm3 := hm.trans (Moved.drewN g o w2 nq)
          generalize w2.drewN nq = w3 at H3 hm3 ⊢
          clear c0 c1 c2 c3 c4 c5 c6 c7 c8 c9 c10 c11 c12 c13 f5 f6 f7 f8 f9 f10 f11 f12 f13
          obtain ⟨⟨c0, c1, c2, c3, c4, c5, c6, c7, c8, c9, c10, c11, c12, c13⟩, f5, f6, f7, f8, f9, f10, f11, f12, f13⟩ := H3.out.box.at7
          replace c5 : w3.cell? ⟨g, 5, none⟩ = some (.int .i64 P) := c5
          go_wp2_with fail
          go_end0
          exact ⟨rfl, o, by rw [← HRf.out]; exact H3.out.to (P + U) hPU, hm3.setCell Hg.out _ _⟩
      · have hA1b := neI hA1
        by_cases hA2 : A2 = 8
        · have hA2b : (A2 == 8) = true := by simp [hA2]
          by_cases hdp : B ≤ deep
          · have hdpi : B ≤ deep := hdp
            have HRf : Hid ((r.to P).bad 6 r.place = R) := Lib.hid (by rw [← HR2.out]; unfold rdBody; simp only; rw [if_neg hA1, if_pos hA2, if_pos hdp])
            clear hA1 hA2 HR2
            go_wp2_with fail
            refine (l12Fail_any 6 r.place _).mono ?_
            rintro e w9 ⟨rfl, hb9⟩
            have H9 := Lib.hid (H2.out.below hb9)
            have hm9 := hm.trans (Moved.of_below hb9)
            clear c0 c1 c2 c3 c4 c5 c6 c7 c8 c9 c10 c11 c12 c13 f5 f6 f7 f8 f9 f10 f11 f12 f13 hb9
            obtain ⟨⟨c0, c1, c2, c3, c4, c5, c6, c7, c8, c9, c10, c11, c12, c13⟩, f5, f6, f7, f8, f9, f10, f11, f12, f13⟩ := H9.out.box.at7
            go_wp2_with fail
            refine bodyPost_ret (results_none rfl _ _ _) rfl ?_
            refine ⟨rfl, o, by rw [← HRf.out]; exact H9.out.bad 6 r.place, ?_⟩
            repeat (first | with_reducible exact hm9 | refine Moved.setCell ?_ Hg.out _ _)
          · have hdpb : decide (B ≤ deep) = false := decide_eq_false hdp
            obtain ⟨Q, hQ⟩ : ∃ Q, msgRd s sch B n A5 ((P + U : Nat) : Int) (deep + 1) ((r.to P).tell (downE A1 U)) = Q := ⟨_, rfl⟩
            have HR3 : Hid ((if Q.fail.kind = 0 then Q.tell upE else Q) = R) := Lib.hid (by rw [← HR2.out, ← hQ]; unfold rdBody; simp only; rw [if_neg hA1, if_pos hA2, if_neg hdp]; rfl)
            have HQl : Hid (Q.out.length ≤ 1048576000) := Lib.hid (by
              have hrp : ((r.to P).tell (downE A1 U)).place = P := rfl
              have hro : ((r.to P).tell (downE A1 U)).out.length = r.out.length + 1 := by show (r.out ++ [_]).length = _; rw [List.length_append]; rfl
              have hadv := msgRd_adv (s := s) (sch := sch) (D := B) n A5 ((P + U : Nat) : Int) (deep + 1) ((r.to P).tell (downE A1 U)) (by rw [hrp]; exact hP2) (by rw [hrp]; omega)
              rw [hQ] at hadv
              have h1 := hadv.len
              have h2 := hadv.inn
              rw [hrp, hro] at h1
              have := Hl.out
              have := Hp.out
              omega)
            have HCt : Hid (∀ o3 w3, RdAt w3 g u sch A B C s o3 ((r.to P).tell (downE A1 U)) → Calls Tryz.prog 66 #[.pointer (some ⟨g, 0, none⟩), .int .i64 A5, .int .i64 ((P + U : Nat) : Int), .int .i64 (deep + 1)] w3 fun e w' => e = .returned (.tuple #[]) ∧ ∃ o', RdAt w' g u sch A B C s o' Q ∧ Moved g o3 o' w3 w') := Lib.hid fun o3 w3 h3 => by
              have := HIH.out A5 ((P + U : Nat) : Int) (deep + 1) o3 ((r.to P).tell (downE A1 U)) w3 h3 (by
                show (r.out ++ [_]).length ≤ 4 * P
                rw [List.length_append, List.length_singleton]; have := Hl.out; have := Hlt.out; omega) (by show (P : Int) ≤ _; omega) (by have := Hbn.out; omega) (by show s.size - P < n; have := Hfu.out; have := Hlt.out; omega) (by omega)
              rw [hQ] at this
              exact this
            have hw6 : IntKind.i64.wrap (deep + 1) = deep + 1 := IntWalk.i64_in _ (by omega)
            clear hA1 hA2 HR2 hQ
            go_wp2_with fail
            refine (l12Tell_any g u sch A B C s o (r.to P) (downE A1 U) _ H2.out (by have := Hl.out; have := Hp.out; show r.out.length ≤ _; omega)).mono ?_
            rintro e w3 ⟨rfl, o3, h3, hm3⟩
            have H3 := Lib.hid h3.drew
            have hb3 := (hm3.box hb2 hgx hox)
            have hmd : Moved g o o3 w w3.drew := (hm.trans hm3).trans (.of_below (Below.refl _ _).drew)
            clear c0 c1 c2 c3 c4 c5 c6 c7 c8 c9 c10 c11 c12 c13 f5 f6 f7 f8 f9 f10 f11 f12 f13 x0 x1 x2 x3 x4 hm3 h3
            have HC3 := Lib.hid (HCt.out o3 w3.drew H3.out)
            obtain ⟨⟨c0, c1, c2, c3, c4, c5, c6, c7, c8, c9, c10, c11, c12, c13⟩, f5, f6, f7, f8, f9, f10, f11, f12, f13⟩ := H3.out.box.at7
            obtain ⟨⟨x0, x1, x2, x3, x4⟩, _⟩ := Box.five hb3
            replace c5 : w3.drew.cell? ⟨g, 5, none⟩ = some (.int .i64 P) := c5
            go_upto_region 18 with fail
            go_region_with (go_at_call 66; refine HC3.out.mono ?_; rintro e w4 ⟨rfl, o4, h4, hm4⟩)
            all_goals
              have H4 := Lib.hid h4
              have hm5 := hmd.trans hm4
              clear h4 hm4 c0 c1 c2 c3 c4 c5 c6 c7 c8 c9 c10 c11 c12 c13 f5 f6 f7 f8 f9 f10 f11 f12 f13 x0 x1 x2 x3 x4
              obtain ⟨⟨c0, c1, c2, c3, c4, c5, c6, c7, c8, c9, c10, c11, c12, c13⟩, f5, f6, f7, f8, f9, f10, f11, f12, f13⟩ := H4.out.box.at7
              by_cases hk : Q.fail.kind = 0
              · have hkb : (Q.fail.kind == 0) = true := by simp [hk]
                have HRf : Hid (Q.tell upE = R) := Lib.hid (by rw [← HR3.out, if_pos hk])
                clear hk
                go_wp2_with fail
                refine (l12Tell_any g u sch A B C s o4 Q upE _ H4.out HQl.out).mono ?_
                rintro e w6 ⟨rfl, o6, h6, hm6⟩
                have H6 := Lib.hid h6
                clear h6
                go_wp2_with fail
                go_end0
                exact ⟨rfl, o6, by rw [← HRf.out]; exact H6.out, hm5.trans hm6⟩
              · have hkb := neI hk
                have HRf : Hid (Q = R) := Lib.hid (by rw [← HR3.out, if_neg hk])
                clear hk
                go_wp2_with fail
                go_end0
                exact ⟨rfl, o4, by rw [← HRf.out]; exact H4.out, hm5⟩
        · have hA2b := neI hA2
          by_cases hA67 : A2 = 6 ∨ A2 = 7
          · have HR3 : Hid (rdPayload s (A1, A2, A3, A4, A5) U (r.to P) = R) := Lib.hid (by rw [← HR2.out]; unfold rdBody; simp only; rw [if_neg hA1, if_neg hA2, if_pos hA67])
            have h67 : (A2 == 6) = true ∨ ((A2 == 6) = false ∧ (A2 == 7) = true) := by rcases hA67 with h | h <;> simp [h]
            have HPc := Lib.hid (HP.out U o (r.to P) w2 H2.out (by show P + U ≤ _; have := Hbn.out; omega) Hr.out (by have := Hl.out; have := Hp.out; show r.out.length ≤ _; omega))
            clear hA1 hA2 hA67 HR2
            rcases h67 with h6 | ⟨h6, h7⟩
            all_goals
              go_wp2_with fail
              refine HPc.out.mono ?_
              rintro e w3 ⟨rfl, o3, h3, hm3⟩
              have H3 := Lib.hid h3
              clear h3
              go_wp2_with fail
              go_end0
              exact ⟨rfl, o3, by rw [← HR3.out]; exact H3.out, hm.trans hm3⟩
          · have h6 := neI (x := A2) (c := 6) (fun h => hA67 (.inl h))
            have h7 := neI (x := A2) (c := 7) (fun h => hA67 (.inr h))
            have HR3 : Hid (rdRun s (A1, A2, A3, A4, A5) ((P + U : Nat) : Int) n (r.to P) = R) := Lib.hid (by rw [← HR2.out]; unfold rdBody; simp only; rw [if_neg hA1, if_neg hA2, if_neg hA67]; rfl)
            have Hb2 := Lib.hid hb2
            clear hA1 hA2 hA67 HR2
            obtain ⟨S, hS⟩ : ∃ S, P + U = S := ⟨_, rfl⟩
            rw [hS] at HR3 Hbn hw4
            have hPS : P ≤ S := by omega
            go_upto_region 8 with fail
            go_loopg [] n (fun gm wr => ∃ (rk : RdM) (ok : Value), Hid (RdAt wr g u sch A B C s ok rk) ∧ Hid (rdRun s (A1, A2, A3, A4, A5) (S : Int) gm rk = R) ∧ Hid (rk.fail.kind = 0 → s.size - rk.place < gm) ∧ rk.place ≤ S ∧ rk.place ≤ s.size ∧ rk.out.length ≤ 4 * rk.place ∧ Hid (Box wr gx [.int .i64 A1, .int .i64 A2, .bool A3, .bool A4, .int .i64 A5]) ∧ Hid (ok.ownBlock ≠ some gx) ∧ Moved g o ok w wr ∧ gx < wr.heap.size)
            case atStart => exact ⟨r.to P, o, H2, HR3, Lib.hid fun _ => by show s.size - P < n; have := Hfu.out; have := Hlt.out; omega, hPS, hP2, by show r.out.length ≤ 4 * P; have := Hl.out; have := Hlt.out; omega, Hb2, Lib.hid hox, hm, hb2.lt⟩
            case round =>
              clear c0 c1 c2 c3 c4 c5 c6 c7 c8 c9 c10 c11 c12 c13 f5 f6 f7 f8 f9 f10 f11 f12 f13 x0 x1 x2 x3 x4 hb2 hm H2 hox
              obtain ⟨rk, ok, HK, HRk, Hgm, hkS, hks, hko, HBk, Hok, hmk, hgxk⟩ := hrel
              obtain ⟨⟨c0, c1, c2, c3, c4, c5, c6, c7, c8, c9, c10, c11, c12, c13⟩, f5, f6, f7, f8, f9, f10, f11, f12, f13⟩ := HK.out.box.at7
              by_cases hlt : rk.place < S
              · have hlti : (rk.place : Int) < (S : Int) := by omega
                by_cases hk : rk.fail.kind = 0
                · have hkb : (rk.fail.kind == 0) = true := by simp [hk]
                  have hgp : s.size - rk.place < gk := Hgm.out hk
                  obtain ⟨G, rfl⟩ : ∃ G, gk = G + 1 := ⟨gk - 1, by omega⟩
                  have HRn : Hid (rdRun s (A1, A2, A3, A4, A5) (S : Int) G (rdNum s (A1, A2, A3, A4, A5) (wireR A2) (S : Int) rk) = R) := Lib.hid (by rw [← HRk.out, rdRun_more ⟨hlti, hk⟩])
                  obtain ⟨hadv, hst⟩ := rdNum_adv (s := s) (f := (A1, A2, A3, A4, A5)) (x := wireR A2) (E := (S : Int)) (r := rk) hks (by omega)
                  have HNx := Lib.hid (HNm.out (wireR A2) (S : Int) ok rk wr.drew HK.out.drew ⟨by omega, by have := Hbn.out; omega⟩ (by omega))
                  have hmk2 : Moved g o ok w wr.drew := hmk.trans (.of_below (Below.refl _ _).drew)
                  have hgg : gx < wr.drew.heap.size := hgxk
                  have HBd : Hid (Box wr.drew gx [.int .i64 A1, .int .i64 A2, .bool A3, .bool A4, .int .i64 A5]) := HBk
                  obtain ⟨r2, hr2⟩ : ∃ r2, rdNum s (A1, A2, A3, A4, A5) (wireR A2) (S : Int) rk = r2 := ⟨_, rfl⟩
                  rw [hr2] at HRn HNx hadv hst
                  have Hadv := Lib.hid hadv
                  have Hst := Lib.hid hst
                  have Hgp := Lib.hid hgp
                  obtain ⟨⟨x0, x1, x2, x3, x4⟩, _⟩ := Box.five HBk.out
                  clear hk HRk hadv hst hr2 hgp
                  go_wp2_with fail
                  go_region_with (first | (go_at_call 126; refine (specWireOf_any A2 _).mono ?_; rintro _ _ ⟨rfl, rfl⟩) | (go_at_call 107; refine HNx.out.mono ?_; rintro e w4 ⟨rfl, o4, h4, hm4⟩))
                  all_goals
                    have H4 := Lib.hid h4
                    have hb4 := Lib.hid (hm4.box HBd.out hgx Hok.out)
                    have hm5 := hmk2.trans hm4
                    have hok4 : Hid (o4.ownBlock ≠ some gx) := Lib.hid fun e => by
                      rcases hm4.own gx e with h1 | h1
                      · exact Hok.out h1
                      · omega
                    have hg4 : gx < w4.heap.size := Nat.lt_of_lt_of_le hgg hm4.size
                    clear h4 hm4 c0 c1 c2 c3 c4 c5 c6 c7 c8 c9 c10 c11 c12 c13 f5 f6 f7 f8 f9 f10 f11 f12 f13 x0 x1 x2 x3 x4
                    go_wp2_with fail
                    go_roundg G
                    case measure => omega
                    case rel => exact ⟨r2, o4, H4, HRn, Lib.hid fun h => by have := Hst.out h; have := Hgp.out; have := Hadv.out.inn; omega, by have := Hadv.out.upto; omega, Hadv.out.inn, by have := Hadv.out.len; omega, hb4, hok4, hm5, hg4⟩
                · have hkb := neI hk
                  have HRf : Hid (rk = R) := Lib.hid (by rw [← HRk.out, rdRun_end (fun h => hk h.2)])
                  clear hk
                  go_wp2_with fail
                  go_end0
                  exact ⟨rfl, ok, by rw [← HRf.out]; exact HK.out, hmk⟩
              · have hge : decide (rk.place < S) = false := decide_eq_false hlt
                have hge2 : decide ((rk.place : Int) < (S : Int)) = false := decide_eq_false (by omega)
                have HRf : Hid (rk = R) := Lib.hid (by rw [← HRk.out, rdRun_end (fun h => by have := h.1; omega)])
                clear hlt
                go_wp2_with fail
                go_end0
                exact ⟨rfl, ok, by rw [← HRf.out]; exact HK.out, hmk⟩
end Go.Proofs.YtpkofbdfnbpfpaaGreat.Num


/-
  The walk of the reference's l12Msg: all fields up to a place, by how many bytes are left.
-/
namespace Go.Proofs.YtpkofbdfnbpfpaaGreat.Num
open Go.RowKit Go.Proofs
set_option linter.unusedVariables false
set_option linter.unusedSimpArgs false

theorem numLen {r : RdM} {s : ByteArray} (h : r.out.length ≤ 4 * r.place) (hp : r.place ≤ s.size) (hs : s.size ≤ 200000000) : r.out.length ≤ 1048576000 := by omega
set_option maxHeartbeats 8000000 in
set_option maxRecDepth 100000 in
theorem l12Msg_step (n : Nat) (g : Nat) (u : Value) (sch : List RM) (A B C : Int) (s : ByteArray) (hsch : Small sch) (hB : B ≤ 8) (hs : s.size ≤ 200000000) (IH : ∀ m, m < n → MsgCall g u sch A B C s m) : MsgCall g u sch A B C s n := by
  intro sh E deep o r w h hl hE hE63 hfu hd
  obtain ⟨R, hR⟩ : ∃ R, msgRd s sch B n sh E deep r = R := ⟨_, rfl⟩
  rw [hR]
  have HR := Lib.hid hR
  have H := Lib.hid h
  have Hg := Lib.hid h.lt
  have hp := h.place
  have HIH := Lib.hid IH
  have Hsch := Lib.hid hsch
  have Hfu := Lib.hid hfu
  have HE := Lib.hid hE63
  clear hR h IH hsch hfu
  go_enter Tryz.func66, Tryz.ntmps66
  go_wp2_with fail
  go_loopg [] n (fun gm wr => ∃ (rk : RdM) (ok : Value), gm ≤ n ∧ Hid (RdAt wr g u sch A B C s ok rk) ∧ Hid (msgRd s sch B gm sh E deep rk = R) ∧ Hid (rk.fail.kind = 0 → s.size - rk.place < gm) ∧ (rk.place : Int) ≤ E ∧ rk.place ≤ s.size ∧ rk.out.length ≤ 4 * rk.place ∧ Moved g o ok w wr)
  case atStart => exact ⟨r, o, Nat.le_refl _, H, HR, Lib.hid fun _ => Hfu.out, hE, hp, hl, Moved.refl _ _ _⟩
  case round =>
    clear H HR hE hp hl Hfu
    obtain ⟨rk, ok, hgn, HK, HRk, Hgm, hkE, hks, hko, hmk⟩ := hrel
    obtain ⟨⟨c0, c1, c2, c3, c4, c5, c6, c7, c8, c9, c10, c11, c12, c13⟩, f5, f6, f7, f8, f9, f10, f11, f12, f13⟩ := HK.out.box.at7
    by_cases hlt : (rk.place : Int) < E
    · by_cases hk : rk.fail.kind = 0
      · have hkb : (rk.fail.kind == 0) = true := by simp [hk]
        have hgp : s.size - rk.place < gk := Hgm.out hk
        obtain ⟨G, rfl⟩ : ∃ G, gk = G + 1 := ⟨gk - 1, by omega⟩
        have HRn : Hid (msgRd s sch B G sh E deep (rdStep (msgRd s sch B G) G s sch B sh E deep rk) = R) := Lib.hid (by rw [← HRk.out, msgRd_more ⟨hlt, hk⟩])
        obtain ⟨hadv, hst⟩ := rdStep_adv (n := G) (sch := sch) (D := B) (shape := sh) (deep := deep) (msgRd_adv (s := s) (sch := sch) (D := B) G) hks hkE hk
        obtain ⟨r2, hr2⟩ : ∃ r2, rdStep (msgRd s sch B G) G s sch B sh E deep rk = r2 := ⟨_, rfl⟩
        rw [hr2] at HRn hadv hst
        have Hadv := Lib.hid hadv
        have Hst := Lib.hid hst
        have Hgp := Lib.hid hgp
        have Hr2 := Lib.hid hr2
        have Hrk := Lib.hid hk
        have HV := Lib.hid (rdVar_cases (E := E) hks)
        clear hk HRk hadv hst hr2 hgp Hgm
        go_wp2_with fail
        refine (l12Var_any g u sch A B C E s ok rk _ HK.out (by omega)).mono ?_
        have hr3 := Hr2.out
        unfold rdStep at hr3
        have Hr3 := Lib.hid hr3
        clear hr3 Hr2
        generalize rdVar s E rk = Q at HV Hr3 ⊢
        rintro e w2 ⟨rfl, h2, hm2⟩
        have hm := hmk.trans hm2
        clear hm2 hmk c0 c1 c2 c3 c4 c5 c6 c7 c8 c9 c10 c11 c12 c13 f5 f6 f7 f8 f9 f10 f11 f12 f13
        rcases HV.out with ⟨c, a, hc, rfl⟩ | ⟨P, U, rfl, hP1, hP2, hP3, hU⟩
        · simp only at h2 Hr3 ⊢
          have H2 := Lib.hid h2
          have HRf : Hid (rk.bad c a = R) := Lib.hid (by
            have hr3 := Hr3.out
            rw [if_pos (by rw [bad_kind]; omega)] at hr3
            rw [← HRn.out, ← hr3, msgRd_end (fun h => by have h' := h.2; rw [bad_kind] at h'; omega)])
          obtain ⟨⟨c0, c1, c2, c3, c4, c5, c6, c7, c8, c9, c10, c11, c12, c13⟩, f5, f6, f7, f8, f9, f10, f11, f12, f13⟩ := H2.out.box.at7
          replace c7 : w2.cell? ⟨g, 7, none⟩ = some (.int .i64 10) := c7
          clear h2 HV hc
          go_wp2_with fail
          refine bodyPost_ret (results_none rfl _ _ _) rfl ?_
          exact ⟨rfl, ok, by rw [← HRf.out]; exact H2.out, hm⟩
        · simp only at h2 Hr3 ⊢
          have H2 := Lib.hid h2
          have Hr4 : Hid (rdTag2 (msgRd s sch B G) G s B E deep rk.place (tagInR U) (fieldAtR sch sh (tagInR U).1) (rk.to P) = r2) := Lib.hid (by
            have hz : ¬ ((rk.to P).fail.kind ≠ 0) := fun h => h Hrk.out
            have hr3 := Hr3.out
            rw [if_neg hz, Int.toNat_natCast] at hr3
            exact hr3)
          obtain ⟨⟨c0, c1, c2, c3, c4, c5, c6, c7, c8, c9, c10, c11, c12, c13⟩, f5, f6, f7, f8, f9, f10, f11, f12, f13⟩ := H2.out.box.at7
          replace c5 : w2.cell? ⟨g, 5, none⟩ = some (.int .i64 P) := c5
          replace c7 : w2.cell? ⟨g, 7, none⟩ = some (.int .i64 0) := by rw [← Hrk.out]; exact c7
          have HT := Lib.hid (fun w => specTagIn_any U w (by omega))
          have HU := Lib.hid hU
          clear h2 HV Hr3 hU
          generalize tagInR U = T at HT Hr4
          obtain ⟨N, X, K⟩ := T
          unfold tagV at HT
          simp only at HT Hr4
          go_wp2_with fail
          refine (HT.out _).mono ?_
          rintro _ _ ⟨rfl, rfl⟩
          have HF : Hid (Calls Tryz.prog 102 #[.agg #[u], .int .i64 sh, .int .i64 N] w2 fun e w' => e = .returned (.tuple #[fieldV (fieldAtR sch sh N).1, .bool (fieldAtR sch sh N).2]) ∧ Below w2.heap.size w2 w') := Lib.hid (specFieldAt_any (.agg #[u]) sch sh N w2 ⟨u, rfl, H2.out.msgs.keep (fun _ _ _ => rfl) fun b hb => Nat.lt_trans hb H2.out.lt⟩ Hsch.out)
          generalize fieldAtR sch sh N = FK at HF Hr4
          obtain ⟨⟨A1, A2, A3, A4, A5⟩, kn⟩ := FK
          unfold fieldV at HF
          simp only at HF
          go_wp2_with fail
          refine HF.out.mono ?_
          rintro e w3 ⟨rfl, hb3⟩
          have hob : ∀ k, ok.ownBlock = some k → k < w2.heap.size := fun k hk => (H2.out.out.lt k hk).2
          have hz3 := hb3.size
          have hg2 := H2.out.lt
          have hbx : Box (w3.alloc (.cells #[.int .i64 A1, .int .i64 A2, .bool A3, .bool A4, .int .i64 A5] 117)) w3.heap.size [.int .i64 A1, .int .i64 A2, .bool A3, .bool A4, .int .i64 A5] := Box.fresh w3 #[.int .i64 A1, .int .i64 A2, .bool A3, .bool A4, .int .i64 A5] _
          have hba : Below w2.heap.size w2 (w3.alloc (.cells #[.int .i64 A1, .int .i64 A2, .bool A3, .bool A4, .int .i64 A5] 117)) := hb3.alloc hz3 _
          have H4 := Lib.hid (H2.out.below hba)
          have hm4 := hm.trans (Moved.of_below hba)
          have hgx : w3.heap.size ≠ g := by omega
          have hox : ok.ownBlock ≠ some w3.heap.size := fun e => by have := hob _ e; omega
          have HLr : Hid ((rk.to P).out.length ≤ 4 * (rk.to P).place ∧ s.size - (rk.to P).place < G ∧ ((rk.to P).place : Int) ≤ E) := Lib.hid ⟨by show rk.out.length ≤ 4 * P; omega, by show s.size - P < G; have := Hgp.out; omega, hP3⟩
          clear c0 c1 c2 c3 c4 c5 c6 c7 c8 c9 c10 c11 c12 c13 f5 f6 f7 f8 f9 f10 f11 f12 f13 H2 hb3 hba hm hob hz3 hg2 hP1 hP2 hP3 HF HT
          go_upto_region 7 with fail
          generalize w3.alloc (.cells #[.int .i64 A1, .int .i64 A2, .bool A3, .bool A4, .int .i64 A5] 117) = w4 at H4 hm4 hbx ⊢
          have hgl := hbx.lt
          generalize w3.heap.size = gb at hbx hgx hox hgl ⊢
          obtain ⟨⟨c0, c1, c2, c3, c4, c5, c6, c7, c8, c9, c10, c11, c12, c13⟩, f5, f6, f7, f8, f9, f10, f11, f12, f13⟩ := H4.out.box.at7
          obtain ⟨⟨x0, x1, x2, x3, x4⟩, _⟩ := Box.five hbx
          cases K with
          | false =>
            have He : Hid ((rk.to P).bad 2 rk.place = r2) := Lib.hid (by rw [← Hr4.out]; rfl)
            go_wp2_with fail
            refine (l12Fail_any 2 rk.place _).mono ?_
            rintro e w9 ⟨rfl, hb9⟩
            have H9 := Lib.hid (H4.out.below hb9)
            have hm9 := hm4.trans (Moved.of_below hb9)
            clear c0 c1 c2 c3 c4 c5 c6 c7 c8 c9 c10 c11 c12 c13 f5 f6 f7 f8 f9 f10 f11 f12 f13 x0 x1 x2 x3 x4 hb9
            obtain ⟨⟨c0, c1, c2, c3, c4, c5, c6, c7, c8, c9, c10, c11, c12, c13⟩, f5, f6, f7, f8, f9, f10, f11, f12, f13⟩ := H9.out.box.at7
            have H10 := Lib.hid (H9.out.bad 2 rk.place)
            rw [He.out] at H10
            go_wp2_with fail
            go_roundg G
            case measure => omega
            case rel =>
              refine ⟨r2, ok, by omega, H10, HRn, Lib.hid fun h => by have := Hst.out h; have := Hgp.out; have := Hadv.out.inn; omega, by have := Hadv.out.upto; omega, Hadv.out.inn, by have := Hadv.out.len; omega, ?_⟩
              repeat (first | with_reducible exact hm9 | refine Moved.setCell ?_ Hg.out _ _)
          | true =>
            have HW := Lib.hid (fun w => specWireOk_any X w)
            have Hr5 : Hid ((if wireOkB X = false then (rk.to P).bad 3 rk.place else if (kn && !allowedB (A1, A2, A3, A4, A5) X) = true then (rk.to P).bad 4 rk.place else if X = 2 then rdLong (msgRd s sch B G) G s B (A1, A2, A3, A4, A5) E deep (rk.to P) else rdNum s (A1, A2, A3, A4, A5) X E (rk.to P)) = r2) := Lib.hid (by rw [← Hr4.out]; rfl)
            clear Hr4
            generalize wireOkB X = Q1 at HW Hr5
            go_wp2_with fail
            refine (HW.out _).mono ?_
            rintro _ _ ⟨rfl, rfl⟩
            cases Q1 with
            | false =>
              have He : Hid ((rk.to P).bad 3 rk.place = r2) := Lib.hid (by rw [← Hr5.out]; rfl)
              go_wp2_with fail
              refine (l12Fail_any 3 rk.place _).mono ?_
              rintro e w9 ⟨rfl, hb9⟩
              have H9 := Lib.hid (H4.out.below hb9)
              have hm9 := hm4.trans (Moved.of_below hb9)
              clear c0 c1 c2 c3 c4 c5 c6 c7 c8 c9 c10 c11 c12 c13 f5 f6 f7 f8 f9 f10 f11 f12 f13 x0 x1 x2 x3 x4 hb9
              obtain ⟨⟨c0, c1, c2, c3, c4, c5, c6, c7, c8, c9, c10, c11, c12, c13⟩, f5, f6, f7, f8, f9, f10, f11, f12, f13⟩ := H9.out.box.at7
              have H10 := Lib.hid (H9.out.bad 3 rk.place)
              rw [He.out] at H10
              go_wp2_with fail
              go_roundg G
              case measure => omega
              case rel =>
                refine ⟨r2, ok, by omega, H10, HRn, Lib.hid fun h => by have := Hst.out h; have := Hgp.out; have := Hadv.out.inn; omega, by have := Hadv.out.upto; omega, Hadv.out.inn, by have := Hadv.out.len; omega, ?_⟩
                repeat (first | with_reducible exact hm9 | refine Moved.setCell ?_ Hg.out _ _)
            | true =>
              have HA : Hid (∀ w, Calls Tryz.prog 105 #[.agg #[.int .i64 A1, .int .i64 A2, .bool A3, .bool A4, .int .i64 A5], .int .i64 X] w fun e w' => e = .returned (.bool (allowedB (A1, A2, A3, A4, A5) X)) ∧ Below w.heap.size w w') := Lib.hid fun w => specAllowed_any (A1, A2, A3, A4, A5) X w
              generalize allowedB (A1, A2, A3, A4, A5) X = Q2 at HA Hr5
              have HLC : Hid (∀ w, RdAt w g u sch A B C s ok (rk.to P) → Calls Tryz.prog 106 #[.pointer (some ⟨g, 0, none⟩), .agg #[.int .i64 A1, .int .i64 A2, .bool A3, .bool A4, .int .i64 A5], .int .i64 E, .int .i64 deep] w fun e w' => e = .returned (.tuple #[]) ∧ ∃ o', RdAt w' g u sch A B C s o' (rdLong (msgRd s sch B G) G s B (A1, A2, A3, A4, A5) E deep (rk.to P)) ∧ Moved g ok o' w w') := Lib.hid fun w h => l12Long_any G g u sch A B C (A1, A2, A3, A4, A5) s (HIH.out G (by omega)) E deep ok (rk.to P) w h HLr.out.1 Hrk.out ⟨HLr.out.2.2, HE.out⟩ HLr.out.2.1 hd hB hs
              have HNC : Hid (∀ w, RdAt w g u sch A B C s ok (rk.to P) → Calls Tryz.prog 107 #[.pointer (some ⟨g, 0, none⟩), .agg #[.int .i64 A1, .int .i64 A2, .bool A3, .bool A4, .int .i64 A5], .int .i64 X, .int .i64 E] w fun e w' => e = .returned (.tuple #[]) ∧ ∃ o', RdAt w' g u sch A B C s o' (rdNum s (A1, A2, A3, A4, A5) X E (rk.to P)) ∧ Moved g ok o' w w') := Lib.hid fun w h => l12Num_any g u sch A B C X E (A1, A2, A3, A4, A5) s ok (rk.to P) w h (by omega) ⟨HLr.out.2.2, HE.out⟩ (numLen HLr.out.1 h.place hs)
              have key : kn = false ∨ (kn = true ∧ (Q2 = false ∨ Q2 = true)) := by cases kn <;> cases Q2 <;> simp
              rcases key with rfl | ⟨rfl, rfl | rfl⟩
              · have Hr6 : Hid ((if X = 2 then rdLong (msgRd s sch B G) G s B (A1, A2, A3, A4, A5) E deep (rk.to P) else rdNum s (A1, A2, A3, A4, A5) X E (rk.to P)) = r2) := Lib.hid (by rw [← Hr5.out]; rfl)
                have H8 := H4
                have hm8 := hm4
                by_cases hX : X = 2
                · have hXb : (X == 2) = true := by simp [hX]
                  have He : Hid (rdLong (msgRd s sch B G) G s B (A1, A2, A3, A4, A5) E deep (rk.to P) = r2) := Lib.hid (by rw [← Hr6.out, if_pos hX])
                  clear hX
                  go_wp2_with fail
                  refine (HLC.out _ H8.out).mono ?_
                  rintro e w9 ⟨rfl, o9, h9, hm9⟩
                  have H9 := Lib.hid h9
                  rw [He.out] at H9
                  have hm10 := hm8.trans hm9
                  clear h9 hm9 c0 c1 c2 c3 c4 c5 c6 c7 c8 c9 c10 c11 c12 c13 f5 f6 f7 f8 f9 f10 f11 f12 f13 x0 x1 x2 x3 x4
                  go_wp2_with fail
                  go_roundg G
                  case measure => omega
                  case rel => exact ⟨r2, o9, by omega, H9, HRn, Lib.hid fun h => by have := Hst.out h; have := Hgp.out; have := Hadv.out.inn; omega, by have := Hadv.out.upto; omega, Hadv.out.inn, by have := Hadv.out.len; omega, hm10⟩
                · have hXb := neI hX
                  have He : Hid (rdNum s (A1, A2, A3, A4, A5) X E (rk.to P) = r2) := Lib.hid (by rw [← Hr6.out, if_neg hX])
                  clear hX
                  go_wp2_with fail
                  refine (HNC.out _ H8.out).mono ?_
                  rintro e w9 ⟨rfl, o9, h9, hm9⟩
                  have H9 := Lib.hid h9
                  rw [He.out] at H9
                  have hm10 := hm8.trans hm9
                  clear h9 hm9 c0 c1 c2 c3 c4 c5 c6 c7 c8 c9 c10 c11 c12 c13 f5 f6 f7 f8 f9 f10 f11 f12 f13 x0 x1 x2 x3 x4
                  go_wp2_with fail
                  go_roundg G
                  case measure => omega
                  case rel => exact ⟨r2, o9, by omega, H9, HRn, Lib.hid fun h => by have := Hst.out h; have := Hgp.out; have := Hadv.out.inn; omega, by have := Hadv.out.upto; omega, Hadv.out.inn, by have := Hadv.out.len; omega, hm10⟩
              · have He : Hid ((rk.to P).bad 4 rk.place = r2) := Lib.hid (by rw [← Hr5.out]; rfl)
                go_wp2_with fail
                refine (HA.out _).mono ?_
                rintro e w5 ⟨rfl, hb5⟩
                have H8 := Lib.hid (H4.out.below hb5)
                have hm8 := hm4.trans (Moved.of_below hb5)
                clear c0 c1 c2 c3 c4 c5 c6 c7 c8 c9 c10 c11 c12 c13 f5 f6 f7 f8 f9 f10 f11 f12 f13 x0 x1 x2 x3 x4 H4 hm4 hb5
                obtain ⟨⟨c0, c1, c2, c3, c4, c5, c6, c7, c8, c9, c10, c11, c12, c13⟩, f5, f6, f7, f8, f9, f10, f11, f12, f13⟩ := H8.out.box.at7
                go_wp2_with fail
                refine (l12Fail_any 4 rk.place _).mono ?_
                rintro e w9 ⟨rfl, hb9⟩
                have H9 := Lib.hid (H8.out.below hb9)
                have hm9 := hm8.trans (Moved.of_below hb9)
                clear c0 c1 c2 c3 c4 c5 c6 c7 c8 c9 c10 c11 c12 c13 f5 f6 f7 f8 f9 f10 f11 f12 f13 hbx hb9
                obtain ⟨⟨c0, c1, c2, c3, c4, c5, c6, c7, c8, c9, c10, c11, c12, c13⟩, f5, f6, f7, f8, f9, f10, f11, f12, f13⟩ := H9.out.box.at7
                have H10 := Lib.hid (H9.out.bad 4 rk.place)
                rw [He.out] at H10
                go_wp2_with fail
                go_roundg G
                case measure => omega
                case rel =>
                  refine ⟨r2, ok, by omega, H10, HRn, Lib.hid fun h => by have := Hst.out h; have := Hgp.out; have := Hadv.out.inn; omega, by have := Hadv.out.upto; omega, Hadv.out.inn, by have := Hadv.out.len; omega, ?_⟩
                  repeat (first | with_reducible exact hm9 | refine Moved.setCell ?_ Hg.out _ _)
              · have Hr6 : Hid ((if X = 2 then rdLong (msgRd s sch B G) G s B (A1, A2, A3, A4, A5) E deep (rk.to P) else rdNum s (A1, A2, A3, A4, A5) X E (rk.to P)) = r2) := Lib.hid (by rw [← Hr5.out]; rfl)
                go_wp2_with fail
                refine (HA.out _).mono ?_
                rintro e w5 ⟨rfl, hb5⟩
                have H8 := Lib.hid (H4.out.below hb5)
                have hm8 := hm4.trans (Moved.of_below hb5)
                have hbx8 := hbx.below hb5 hbx.lt
                clear c0 c1 c2 c3 c4 c5 c6 c7 c8 c9 c10 c11 c12 c13 f5 f6 f7 f8 f9 f10 f11 f12 f13 x0 x1 x2 x3 x4 H4 hm4 hb5
                obtain ⟨⟨c0, c1, c2, c3, c4, c5, c6, c7, c8, c9, c10, c11, c12, c13⟩, f5, f6, f7, f8, f9, f10, f11, f12, f13⟩ := H8.out.box.at7
                obtain ⟨⟨x0, x1, x2, x3, x4⟩, _⟩ := Box.five hbx8
                by_cases hX : X = 2
                · have hXb : (X == 2) = true := by simp [hX]
                  have He : Hid (rdLong (msgRd s sch B G) G s B (A1, A2, A3, A4, A5) E deep (rk.to P) = r2) := Lib.hid (by rw [← Hr6.out, if_pos hX])
                  clear hX
                  go_wp2_with fail
                  refine (HLC.out _ H8.out).mono ?_
                  rintro e w9 ⟨rfl, o9, h9, hm9⟩
                  have H9 := Lib.hid h9
                  rw [He.out] at H9
                  have hm10 := hm8.trans hm9
                  clear h9 hm9 c0 c1 c2 c3 c4 c5 c6 c7 c8 c9 c10 c11 c12 c13 f5 f6 f7 f8 f9 f10 f11 f12 f13 x0 x1 x2 x3 x4
                  go_wp2_with fail
                  go_roundg G
                  case measure => omega
                  case rel => exact ⟨r2, o9, by omega, H9, HRn, Lib.hid fun h => by have := Hst.out h; have := Hgp.out; have := Hadv.out.inn; omega, by have := Hadv.out.upto; omega, Hadv.out.inn, by have := Hadv.out.len; omega, hm10⟩
                · have hXb := neI hX
                  have He : Hid (rdNum s (A1, A2, A3, A4, A5) X E (rk.to P) = r2) := Lib.hid (by rw [← Hr6.out, if_neg hX])
                  clear hX
                  go_wp2_with fail
                  refine (HNC.out _ H8.out).mono ?_
                  rintro e w9 ⟨rfl, o9, h9, hm9⟩
                  have H9 := Lib.hid h9
                  rw [He.out] at H9
                  have hm10 := hm8.trans hm9
                  clear h9 hm9 c0 c1 c2 c3 c4 c5 c6 c7 c8 c9 c10 c11 c12 c13 f5 f6 f7 f8 f9 f10 f11 f12 f13 x0 x1 x2 x3 x4
                  go_wp2_with fail
                  go_roundg G
                  case measure => omega
                  case rel => exact ⟨r2, o9, by omega, H9, HRn, Lib.hid fun h => by have := Hst.out h; have := Hgp.out; have := Hadv.out.inn; omega, by have := Hadv.out.upto; omega, Hadv.out.inn, by have := Hadv.out.len; omega, hm10⟩
      · have hkb := neI hk
        have HRf : Hid (rk = R) := Lib.hid (by rw [← HRk.out, msgRd_end (fun h => hk h.2)])
        clear hk
        go_wp2_with fail
        go_end0
        exact ⟨rfl, ok, by rw [← HRf.out]; exact HK.out, hmk⟩
    · have hge : decide ((rk.place : Int) < E) = false := decide_eq_false hlt
      have HRf : Hid (rk = R) := Lib.hid (by rw [← HRk.out, msgRd_end (fun h => hlt h.1)])
      clear hlt
      go_wp2_with fail
      go_end0
      exact ⟨rfl, ok, by rw [← HRf.out]; exact HK.out, hmk⟩
end Go.Proofs.YtpkofbdfnbpfpaaGreat.Num


/-
  append onto a slice that the call owns (not nil), of however many elements, none of them too, from a slice at any address or nil; at a plain region's operation and at a step of a region that draws. For any program.
-/
namespace Go.Proofs.YtpkofbdfnbpfpaaGreat.Num
open Go
section
variable {P : Program} (w : World)
theorem run_append_onto (t ty : TypeId) (base : Nat) (e : TypeId) (i : TypeInfo) (z : Value) (size bytes : Nat) (ht : P.underlying t = some (.slice e)) (hi : P.info? e = some i) (hz : i.zero = some z)
    (hsize : i.size = size) (hby : i.bytes = bytes) (hzs : z.cells.size = size) (hsz : 0 < size)
    (g0 n cap0 : Nat) (xs : List Value) (hown : w.ownsRow base e size (.slice (some ⟨g0, 0, none⟩) n cap0) n xs)
    (ao : Option Addr) (m c : Nat) (hao : ao = none → m = 0 ∧ c = 0) (news : List Value) (hl : news.length = m * size) (hnews : ∀ ad, ao = some ad → ∀ j u, news[j]? = some u → w.cell? (ad.add j) = some u) (h1 : ∀ u ∈ news, u.oneCell' = true)
    (h63 : n + m ≤ maxLen) (hbytes : (n + m) * bytes ≤ 140737488355328) (hbase : base ≤ w.heap.size) (H : Nat) (hH : w.heap.size = H) :
    ∃ g cap w', (Builtin.append_ #[t, t] ty #[.slice (some ⟨g0, 0, none⟩) n cap0, .slice ao m c]).run P w = .ok (.slice (some ⟨g, 0, none⟩) (n + m) cap) w' ∧
      w'.ownsRow base e size (.slice (some ⟨g, 0, none⟩) (n + m) cap) (n + m) (xs ++ news) ∧ w.grownBy w' (some g0) ∧ (g = g0 ∨ g = H) ∧ g < w'.heap.size := by
  cases ao with
  | none =>
    obtain ⟨rfl, rfl⟩ := hao rfl
    obtain rfl : news = [] := List.eq_nil_of_length_eq_zero (by simpa using hl)
    refine ⟨g0, cap0, w, run_append_owned_none (P := P) (w := w) base t ty e i size ht hi _ n xs hown, by simpa using hown, ⟨rfl, rfl, rfl, Nat.le_refl _, fun _ _ _ => rfl⟩, .inl rfl, (hown.lt g0 rfl).2⟩
  | some ad =>
    obtain ⟨v', w', hr, h2, h3, h4, h5⟩ := run_append_own_at (P := P) w base t ty e i z size bytes ht hi hz hsize hby hzs hsz _ n xs hown ad m c news hl (hnews ad rfl) h1 h63 hbytes hbase
    have hne : v' ≠ .slice none 0 0 := fun e => by have := (h4.1 e).1; cases this
    rcases h2.2 with ⟨e, _⟩ | ⟨g, cap, cur, e, _, hblk, _⟩
    · exact absurd e hne
    · subst e
      refine ⟨g, cap, w', hr, h2, h3, ?_, (h2.lt g rfl).2⟩
      rcases h5 with h5 | h5
      · exact .inl (Option.some.inj h5)
      · exact .inr ((Option.some.inj h5).trans hH)
theorem wp_append_onto {o : Oper} {a : Act} {K : Act → World → Prop} {Q : Exit → Act → World → Prop} (s x : Operand) (t : TypeId)
    (ho : o.op = .call { callee := .builtin .append, args := #[s, x], argTypes := #[t, t] })
    (base : Nat) (e : TypeId) (i : TypeInfo) (z : Value) (size bytes : Nat) (ht : P.underlying t = some (.slice e)) (hi : P.info? e = some i) (hz : i.zero = some z)
    (hsize : i.size = size) (hby : i.bytes = bytes) (hzs : z.cells.size = size) (hsz : 0 < size)
    (g0 n cap0 : Nat) (xs : List Value) (hs : a.eval s = .slice (some ⟨g0, 0, none⟩) n cap0) (hown : w.ownsRow base e size (.slice (some ⟨g0, 0, none⟩) n cap0) n xs)
    (ao : Option Addr) (m c : Nat) (hx : a.eval x = .slice ao m c) (hao : ao = none → m = 0 ∧ c = 0) (news : List Value) (hl : news.length = m * size) (hnews : ∀ ad, ao = some ad → ∀ j u, news[j]? = some u → w.cell? (ad.add j) = some u) (h1 : ∀ u ∈ news, u.oneCell' = true)
    (h63 : n + m ≤ maxLen) (hbytes : (n + m) * bytes ≤ 140737488355328) (hbase : base ≤ w.heap.size) (H : Nat) (hH : w.heap.size = H)
    (h : ∀ g cap w', w'.ownsRow base e size (.slice (some ⟨g, 0, none⟩) (n + m) cap) (n + m) (xs ++ news) → w.grownBy w' (some g0) → (g = g0 ∨ g = H) → g < w'.heap.size → K (a.put o.dst (.slice (some ⟨g, 0, none⟩) (n + m) cap)) w') : o.wp P a w K Q := by
  obtain ⟨g, cap, w', hr, h2, h3, h4, h5⟩ := run_append_onto (P := P) w t o.type base e i z size bytes ht hi hz hsize hby hzs hsz g0 n cap0 xs hown ao m c hao news hl hnews h1 h63 hbytes hbase H hH
  unfold Oper.wp execOp
  simp only [ho, resolve, invoke, builtin, Sem.run_bind, Sem.run_pure, Result.andThen_ok, List.map_toArray, List.map_cons, List.map_nil, hs, hx, hr]
  exact h g cap w' h2 h3 h4 h5
theorem wpList_append_onto {ops : Array Oper} {rest : List Oper} {o : Oper} {a : Act} {Q : Exit → Act → World → Prop} (hgd : o.guard = none) (s x : Operand) (t : TypeId)
    (ho : o.op = .call { callee := .builtin .append, args := #[s, x], argTypes := #[t, t] })
    (base : Nat) (e : TypeId) (i : TypeInfo) (z : Value) (size bytes : Nat) (ht : P.underlying t = some (.slice e)) (hi : P.info? e = some i) (hz : i.zero = some z)
    (hsize : i.size = size) (hby : i.bytes = bytes) (hzs : z.cells.size = size) (hsz : 0 < size)
    (g0 n cap0 : Nat) (xs : List Value) (hs : a.eval s = .slice (some ⟨g0, 0, none⟩) n cap0) (hown : w.ownsRow base e size (.slice (some ⟨g0, 0, none⟩) n cap0) n xs)
    (ao : Option Addr) (m c : Nat) (hx : a.eval x = .slice ao m c) (hao : ao = none → m = 0 ∧ c = 0) (news : List Value) (hl : news.length = m * size) (hnews : ∀ ad, ao = some ad → ∀ j u, news[j]? = some u → w.cell? (ad.add j) = some u) (h1 : ∀ u ∈ news, u.oneCell' = true)
    (h63 : n + m ≤ maxLen) (hbytes : (n + m) * bytes ≤ 140737488355328) (hbase : base ≤ w.heap.size) (H : Nat) (hH : w.heap.size = H)
    (h : ∀ g cap w', w'.ownsRow base e size (.slice (some ⟨g, 0, none⟩) (n + m) cap) (n + m) (xs ++ news) → w.grownBy w' (some g0) → (g = g0 ∨ g = H) → g < w'.heap.size → wpList P ops Q rest (a.put o.dst (.slice (some ⟨g, 0, none⟩) (n + m) cap)) w') : wpList P ops Q (o :: rest) a w :=
  wpList_plain hgd fun _ hK => wp_append_onto w s x t ho base e i z size bytes ht hi hz hsize hby hzs hsz g0 n cap0 xs hs hown ao m c hx hao news hl hnews h1 h63 hbytes hbase H hH fun g cap w' h2 h3 h4 h5 => hK _ _ (h g cap w' h2 h3 h4 h5)
theorem step_append_onto {ops : Array Oper} {o : Oper} {a : Act} {K : Act → World → Prop} {Q : Exit → Act → World → Prop} {E : Prop} (hgd : o.guard = none) (s x : Operand) (t : TypeId)
    (ho : o.op = .call { callee := .builtin .append, args := #[s, x], argTypes := #[t, t] })
    (base : Nat) (e : TypeId) (i : TypeInfo) (z : Value) (size bytes : Nat) (ht : P.underlying t = some (.slice e)) (hi : P.info? e = some i) (hz : i.zero = some z)
    (hsize : i.size = size) (hby : i.bytes = bytes) (hzs : z.cells.size = size) (hsz : 0 < size)
    (g0 n cap0 : Nat) (xs : List Value) (hs : a.eval s = .slice (some ⟨g0, 0, none⟩) n cap0) (hown : w.ownsRow base e size (.slice (some ⟨g0, 0, none⟩) n cap0) n xs)
    (ao : Option Addr) (m c : Nat) (hx : a.eval x = .slice ao m c) (hao : ao = none → m = 0 ∧ c = 0) (news : List Value) (hl : news.length = m * size) (hnews : ∀ ad, ao = some ad → ∀ j u, news[j]? = some u → w.cell? (ad.add j) = some u) (h1 : ∀ u ∈ news, u.oneCell' = true)
    (h63 : n + m ≤ maxLen) (hbytes : (n + m) * bytes ≤ 140737488355328) (hbase : base ≤ w.heap.size) (H : Nat) (hH : w.heap.size = H)
    (h : ∀ g cap w', w'.ownsRow base e size (.slice (some ⟨g, 0, none⟩) (n + m) cap) (n + m) (xs ++ news) → w.grownBy w' (some g0) → (g = g0 ∨ g = H) → g < w'.heap.size → K (a.put o.dst (.slice (some ⟨g, 0, none⟩) (n + m) cap)) w') :
    if Region.wanted o (yielded ops a.tmps) = true then Oper.wp P o a w K Q else E := by
  have hw : Region.wanted o (yielded ops a.tmps) = true := by simp [Region.wanted, hgd]
  rw [if_pos hw]
  exact wp_append_onto w s x t ho base e i z size bytes ht hi hz hsize hby hzs hsz g0 n cap0 xs hs hown ao m c hx hao news hl hnews h1 h63 hbytes hbase H hH h
end
end Go.Proofs.YtpkofbdfnbpfpaaGreat.Num


/-
  The walk of the reference's Shattered; only new memory is written.
-/
namespace Go.Proofs.YtpkofbdfnbpfpaaGreat.Num
open Go.RowKit Go.Proofs
set_option linter.unusedVariables false
set_option linter.unusedSimpArgs false
attribute [local go_sem] Region.wanted yielded

theorem addNone (b o n : Nat) : (⟨b, o, none⟩ : Addr).add n = ⟨b, o + n, none⟩ := by
  unfold Addr.add
  split
  · next h => subst h; rfl
  · rfl
/-- The cells of a list that is read are those that its append takes. -/
theorem EvsAt.news {w : World} {S : Nat → Prop} {a : Option Addr} {n cap : Nat} {l : List Ev} (h : EvsAt w S (.slice a n cap) l) : ∀ ad, a = some ad → ∀ j u, (l.flatMap evC)[j]? = some u → w.cell? (ad.add j) = some u := by
  intro ad ha j u hj
  subst ha
  have hjl : j < (l.flatMap evC).length := (List.getElem?_eq_some_iff.1 hj).1
  rw [flat_len (sz := 7) (fun _ => rfl)] at hjl
  have hq : j = j / 7 * 7 + j % 7 := by omega
  obtain ⟨b, o, e1, _, c0, c1, c2, c3, c4, c5, c6⟩ := h.cellsAt (j / 7) (by omega)
  obtain rfl := Option.some.inj e1
  rw [hq, flat_get (sz := 7) (fun _ => rfl) l (j / 7) (by omega) (j % 7) (by omega)] at hj
  rw [addNone]
  have h7 : j % 7 < 7 := by omega
  rw [hq, ← Nat.add_assoc]
  generalize j % 7 = r at h7 hj ⊢
  match r, h7 with
  | 0, _ => exact c0.trans hj
  | 1, _ => exact c1.trans hj
  | 2, _ => exact c2.trans hj
  | 3, _ => exact c3.trans hj
  | 4, _ => exact c4.trans hj
  | 5, _ => exact c5.trans hj
  | 6, _ => exact c6.trans hj
theorem evs_len (l : List Ev) : (l.flatMap evC).length = l.length * 7 := flat_len (sz := 7) (fun _ => rfl) l
theorem evC_one {l : List Ev} : ∀ u ∈ l.flatMap evC, u.oneCell' = true := by
  intro u hu
  obtain ⟨e, _, he⟩ := List.mem_flatMap.1 hu
  simp [evC] at he
  rcases he with rfl | rfl | rfl | rfl | rfl | rfl | rfl <;> rfl
end Go.Proofs.YtpkofbdfnbpfpaaGreat.Num


/-
  The walk of the reference's ReadMsg: what is told of a message, and what went wrong.
-/
namespace Go.Proofs.YtpkofbdfnbpfpaaGreat.Num
open Go.RowKit Go.Proofs
set_option linter.unusedVariables false
set_option linter.unusedSimpArgs false

theorem Box.grownB {w w' : World} {b : Nat} {vs : List Value} {row : Option Nat} (h : Box w b vs) (hg : w.grownBy w' row) (hne : row ≠ some b) : Box w' b vs := by
  have hb := hg.block b h.1 (fun e => hne e.symm)
  exact ⟨Nat.lt_of_lt_of_le h.1 hg.size, fun j hj => ⟨(World.cell?_of_block (a := ⟨b, j, none⟩) hb).trans (h.2 j hj).1, (World.frozen?_of_block (a := ⟨b, j, none⟩) hb).trans (h.2 j hj).2⟩⟩
theorem OwnE.apart {w : World} {B : Nat} {T : TypeId} {v : Value} {l : List Ev} (h : OwnE w B T v l) {p : Addr} (hp : ∀ q, v.ownBlock = some q → q ≠ p.block) (u : Value) : OwnE (w.setCell p u) B T v l := by
  refine h.kept (row := some p.block) ⟨rfl, rfl, rfl, by simp [World.setCell], fun k _ hk => Below.heap_setCell _ _ _ _ (fun e => hk (by rw [e]))⟩ ?_
  cases hv : v.ownBlock with
  | none => exact .inl rfl
  | some k => exact .inr fun e => hp k hv (Option.some.inj e)
theorem l12Msg_any (g : Nat) (u : Value) (sch : List RM) (A B C : Int) (s : ByteArray) (hsch : Small sch) (hB : B ≤ 8) (hs : s.size ≤ 200000000) : ∀ n, MsgCall g u sch A B C s n :=
  fun n => Nat.strongRecOn n fun n ih => l12Msg_step n g u sch A B C s hsch hB hs ih
theorem planB_deep {r : List RM} {A B C : Int} (h : planB r A B C = true) : 1 ≤ B ∧ B ≤ 8 := by
  unfold planB at h
  simp only [Bool.and_eq_true, decide_eq_true_eq] at h
  exact h.2.2.1
set_option maxHeartbeats 8000000 in
set_option maxRecDepth 100000 in
theorem specReadMsg_any (u : Value) (sch : List RM) (A B C shape a E deep : Int) (s : ByteArray) (w : World) (hu : MsgsAt w (· < w.heap.size) u sch) (hsch : Small sch) (hs : s.size ≤ 200000000) (hE : E ≤ 9223372036854775807) :
    Calls Tryz.prog 19 #[planV u A B C, .int .i64 shape, .string s, .int .i64 a, .int .i64 E, .int .i64 deep] w fun e w' => ∃ v cap, e = .returned (.tuple #[.slice v (readR sch A B C shape s a E deep).1.length cap, evV (readR sch A B C shape s a E deep).2]) ∧ OwnE w' w.heap.size 34 (.slice v (readR sch A B C shape s a E deep).1.length cap) (readR sch A B C shape s a E deep).1 ∧ Below w.heap.size w w' := by
  obtain ⟨i0, hi, hz0, hz1', hzb⟩ := info_parts info_event
  obtain ⟨Z, hZ⟩ : ∃ Z, readR sch A B C shape s a E deep = Z := ⟨_, rfl⟩
  rw [hZ]
  have HZ := Lib.hid hZ
  have Hu := Lib.hid hu
  have Hsch := Lib.hid hsch
  have HE := Lib.hid hE
  obtain ⟨ua, uc, rfl⟩ := MsgsAt.len hu
  unfold planV
  have hsl := hsch.1
  have hbx := (Box.fresh w #[.slice ua sch.length uc, .int .i64 A, .int .i64 B, .int .i64 C] 28).alloc (.cells #[.int .i64 0, .int .i64 0, .int .u64 0, .int .i64 0, .string ⟨#[]⟩, .int .i64 0, .int .i64 0] 34)
  have hbr : Box ((w.alloc (.cells #[.slice ua sch.length uc, .int .i64 A, .int .i64 B, .int .i64 C] 28)).alloc (.cells #[.int .i64 0, .int .i64 0, .int .u64 0, .int .i64 0, .string ⟨#[]⟩, .int .i64 0, .int .i64 0] 34)) (w.heap.size + 1) [.int .i64 0, .int .i64 0, .int .u64 0, .int .i64 0, .string ⟨#[]⟩, .int .i64 0, .int .i64 0] := by
    have h := Box.fresh (w.alloc (.cells #[.slice ua sch.length uc, .int .i64 A, .int .i64 B, .int .i64 C] 28)) #[.int .i64 0, .int .i64 0, .int .u64 0, .int .i64 0, .string ⟨#[]⟩, .int .i64 0, .int .i64 0] 34
    rwa [show (w.alloc (.cells #[.slice ua sch.length uc, .int .i64 A, .int .i64 B, .int .i64 C] 28)).heap.size = w.heap.size + 1 by simp] at h
  have hb0 : Below w.heap.size w ((w.alloc (.cells #[.slice ua sch.length uc, .int .i64 A, .int .i64 B, .int .i64 C] 28)).alloc (.cells #[.int .i64 0, .int .i64 0, .int .u64 0, .int .i64 0, .string ⟨#[]⟩, .int .i64 0, .int .i64 0] 34)) := ((Below.refl _ _).alloc (Nat.le_refl _) _).alloc (by simp) _
  have hz0' : ((w.alloc (.cells #[.slice ua sch.length uc, .int .i64 A, .int .i64 B, .int .i64 C] 28)).alloc (.cells #[.int .i64 0, .int .i64 0, .int .u64 0, .int .i64 0, .string ⟨#[]⟩, .int .i64 0, .int .i64 0] 34)).heap.size = w.heap.size + 2 := by simp
  have HPl := Lib.hid (specPlanOk_any (.slice ua sch.length uc) sch A B C ((w.alloc (.cells #[.slice ua sch.length uc, .int .i64 A, .int .i64 B, .int .i64 C] 28)).alloc (.cells #[.int .i64 0, .int .i64 0, .int .u64 0, .int .i64 0, .string ⟨#[]⟩, .int .i64 0, .int .i64 0] 34)) (Hu.out.keep (.of_below hb0 fun _ h => h) fun b hb => by show b < ((w.alloc (.cells #[.slice ua sch.length uc, .int .i64 A, .int .i64 B, .int .i64 C] 28)).alloc (.cells #[.int .i64 0, .int .i64 0, .int .u64 0, .int .i64 0, .string ⟨#[]⟩, .int .i64 0, .int .i64 0] 34)).heap.size; omega) Hsch.out)
  unfold planV at HPl
  clear hu hsch hE hZ
  go_enter Tryz.func19, Tryz.ntmps19
  go_wp2_with fail
  refine HPl.out.mono ?_
  rintro e w1 ⟨rfl, hb1⟩
  have hbx1 := hbx.below hb1 (by omega)
  have hbr1 := hbr.below hb1 (by omega)
  have hbw := hb0.trans (hb1.mono hb0.size)
  have hz1 : w.heap.size + 2 ≤ w1.heap.size := by have := hb1.size; omega
  clear hbx hbr hb0 hb1 hz0' HPl
  have hbB : w.heap.size ≤ w.heap.size + 1 := Nat.le_succ _
  have hbl : w.heap.size + 1 < w1.heap.size := hz1
  have hbl0 : w.heap.size < w1.heap.size := by omega
  have hne1 : ¬ w.heap.size = w.heap.size + 1 := by omega
  have hne2 : ¬ w.heap.size + 1 = w.heap.size := by omega
  generalize w.heap.size + 1 = br at hbr1 hbB hbl hne1 hne2 ⊢
  obtain ⟨c0, c1, c2, c3⟩ := hbx1.fourC
  obtain ⟨⟨r0, r1, r2, r3, r4, r5, r6⟩, s0, s1, s2, s3, s4, s5, s6⟩ := hbr1.seven
  have hwr : IntKind.i64.wrap ((sch.length : Int) - 1) = (sch.length : Int) - 1 := IntWalk.i64_in _ (by omega)
  have HNo : Hid (rdOkB sch A B C shape s a E deep = false → Z = ([], zeroE)) := Lib.hid fun h => by rw [← HZ.out]; unfold readR; rw [if_neg (by rw [h]; simp)]
  have Hok : Hid (∀ q0 q1 q2 q3 q4 : Bool, planB sch A B C = q0 → decide (0 ≤ shape ∧ shape ≤ (sch.length : Int) - 1) = q1 → decide (0 ≤ a ∧ a ≤ (s.size : Int)) = q2 → decide (a ≤ E) = q3 → decide (1 ≤ deep ∧ deep ≤ B) = q4 → rdOkB sch A B C shape s a E deep = (q0 && q1 && q2 && q3 && q4)) := Lib.hid fun q0 q1 q2 q3 q4 h0 h1 h2 h3 h4 => by unfold rdOkB; rw [h0, h1, h2, h3, h4]
  have HYes : Hid (rdOkB sch A B C shape s a E deep = true → Z = ((msgRd s sch B (s.size + 1) shape E deep ⟨a.toNat, [], zeroE⟩).out, (msgRd s sch B (s.size + 1) shape E deep ⟨a.toNat, [], zeroE⟩).fail)) := Lib.hid fun h => by rw [← HZ.out]; unfold readR; rw [if_pos h]
  have hS := OwnE.start (((((((w1.setCell ⟨br, 0, none⟩ (.int .i64 0)).setCell ⟨br, 1, none⟩ (.int .i64 0)).setCell ⟨br, 2, none⟩ (.int .u64 0)).setCell ⟨br, 3, none⟩ (.int .i64 0)).setCell ⟨br, 4, none⟩ (.string ⟨#[]⟩)).setCell ⟨br, 5, none⟩ (.int .i64 0)).setCell ⟨br, 6, none⟩ (.int .i64 0)) w.heap.size 34 (by simp [World.setCell]; omega)
  rw [show (((((((w1.setCell ⟨br, 0, none⟩ (.int .i64 0)).setCell ⟨br, 1, none⟩ (.int .i64 0)).setCell ⟨br, 2, none⟩ (.int .u64 0)).setCell ⟨br, 3, none⟩ (.int .i64 0)).setCell ⟨br, 4, none⟩ (.string ⟨#[]⟩)).setCell ⟨br, 5, none⟩ (.int .i64 0)).setCell ⟨br, 6, none⟩ (.int .i64 0)).heap.size = w1.heap.size by simp [World.setCell]] at hS
  have hbz : Below w.heap.size w ((((((((w1.setCell ⟨br, 0, none⟩ (.int .i64 0)).setCell ⟨br, 1, none⟩ (.int .i64 0)).setCell ⟨br, 2, none⟩ (.int .u64 0)).setCell ⟨br, 3, none⟩ (.int .i64 0)).setCell ⟨br, 4, none⟩ (.string ⟨#[]⟩)).setCell ⟨br, 5, none⟩ (.int .i64 0)).setCell ⟨br, 6, none⟩ (.int .i64 0)).alloc (.cells #[] 34)) := (((((((hbw.setCell (p := ⟨br, 0, none⟩) hbB _).setCell (p := ⟨br, 1, none⟩) hbB _).setCell (p := ⟨br, 2, none⟩) hbB _).setCell (p := ⟨br, 3, none⟩) hbB _).setCell (p := ⟨br, 4, none⟩) hbB _).setCell (p := ⟨br, 5, none⟩) hbB _).setCell (p := ⟨br, 6, none⟩) hbB _).alloc (by simp [World.setCell]; omega) _
  have HS := Lib.hid (And.intro hS hbz)
  clear hS hbz
  obtain ⟨q0, hq0⟩ : ∃ q0, planB sch A B C = q0 := ⟨_, rfl⟩
  obtain ⟨q1, hq1⟩ : ∃ q1, decide (0 ≤ shape ∧ shape ≤ (sch.length : Int) - 1) = q1 := ⟨_, rfl⟩
  obtain ⟨q2, hq2⟩ : ∃ q2, decide (0 ≤ a ∧ a ≤ (s.size : Int)) = q2 := ⟨_, rfl⟩
  obtain ⟨q3, hq3⟩ : ∃ q3, decide (a ≤ E) = q3 := ⟨_, rfl⟩
  obtain ⟨q4, hq4⟩ : ∃ q4, decide (1 ≤ deep ∧ deep ≤ B) = q4 := ⟨_, rfl⟩
  have HQ := Lib.hid (Hok.out q0 q1 q2 q3 q4 hq0 hq1 hq2 hq3 hq4)
  have Hq := Lib.hid (And.intro hq0 (And.intro hq1 (And.intro hq2 (And.intro hq3 hq4))))
  have HI1 : Hid (∀ w, Calls Tryz.prog 65 #[.int .i64 shape, .int .i64 0, .int .i64 ((sch.length : Int) - 1)] w fun e w' => e = .returned (.bool q1) ∧ w = w') := Lib.hid fun w => by rw [← hq1]; exact specIn_any _ _ _ _
  have HI2 : Hid (∀ w, Calls Tryz.prog 65 #[.int .i64 a, .int .i64 0, .int .i64 s.size] w fun e w' => e = .returned (.bool q2) ∧ w = w') := Lib.hid fun w => by rw [← hq2]; exact specIn_any _ _ _ _
  have HI4 : Hid (∀ w, Calls Tryz.prog 65 #[.int .i64 deep, .int .i64 1, .int .i64 B] w fun e w' => e = .returned (.bool q4) ∧ w = w') := Lib.hid fun w => by rw [← hq4]; exact specIn_any _ _ _ _
  have h3 : Hid ((q3 = false → decide (E < a) = true) ∧ (q3 = true → decide (E < a) = false)) := Lib.hid ⟨fun h => by rw [h] at hq3; have := of_decide_eq_false hq3; exact decide_eq_true (by omega), fun h => by rw [h] at hq3; have := of_decide_eq_true hq3; exact decide_eq_false (by omega)⟩
  rw [hq0]
  clear hq0 hq1 hq2 hq3 hq4 Hok HZ
  cases q0 with
  | false =>
    have HZ0 := Lib.hid (HNo.out HQ.out)
    go_wp2_with fail
    refine bodyPost_ret (v := .tuple #[.slice (some ⟨w1.heap.size, 0, none⟩) 0 0, .agg #[.int .i64 0, .int .i64 0, .int .u64 0, .int .i64 0, .string ⟨#[]⟩, .int .i64 0, .int .i64 0]]) (by simp [results, Tryz.results19, go_sem, r0, r1, r2, r3, r4, r5, r6, hbl]) rfl ?_
    rw [HZ0.out]
    exact ⟨some ⟨w1.heap.size, 0, none⟩, 0, rfl, HS.out.1, HS.out.2⟩
  | true =>
    go_wp2_with fail
    refine (HI1.out _).mono ?_
    rintro _ _ ⟨rfl, rfl⟩
    cases q1 with
    | false =>
      have HZ0 := Lib.hid (HNo.out HQ.out)
      go_wp2_with fail
      refine bodyPost_ret (v := .tuple #[.slice (some ⟨w1.heap.size, 0, none⟩) 0 0, .agg #[.int .i64 0, .int .i64 0, .int .u64 0, .int .i64 0, .string ⟨#[]⟩, .int .i64 0, .int .i64 0]]) (by simp [results, Tryz.results19, go_sem, r0, r1, r2, r3, r4, r5, r6, hbl]) rfl ?_
      rw [HZ0.out]
      exact ⟨some ⟨w1.heap.size, 0, none⟩, 0, rfl, HS.out.1, HS.out.2⟩
    | true =>
      go_wp2_with fail
      refine (HI2.out _).mono ?_
      rintro _ _ ⟨rfl, rfl⟩
      cases q2 with
      | false =>
        have HZ0 := Lib.hid (HNo.out HQ.out)
        go_wp2_with fail
        refine bodyPost_ret (v := .tuple #[.slice (some ⟨w1.heap.size, 0, none⟩) 0 0, .agg #[.int .i64 0, .int .i64 0, .int .u64 0, .int .i64 0, .string ⟨#[]⟩, .int .i64 0, .int .i64 0]]) (by simp [results, Tryz.results19, go_sem, r0, r1, r2, r3, r4, r5, r6, hbl]) rfl ?_
        rw [HZ0.out]
        exact ⟨some ⟨w1.heap.size, 0, none⟩, 0, rfl, HS.out.1, HS.out.2⟩
      | true =>
        cases q3 with
        | false =>
          have h3' := h3.out.1 rfl
          have HZ0 := Lib.hid (HNo.out HQ.out)
          go_wp2_with fail
          refine bodyPost_ret (v := .tuple #[.slice (some ⟨w1.heap.size, 0, none⟩) 0 0, .agg #[.int .i64 0, .int .i64 0, .int .u64 0, .int .i64 0, .string ⟨#[]⟩, .int .i64 0, .int .i64 0]]) (by simp [results, Tryz.results19, go_sem, r0, r1, r2, r3, r4, r5, r6, hbl]) rfl ?_
          rw [HZ0.out]
          exact ⟨some ⟨w1.heap.size, 0, none⟩, 0, rfl, HS.out.1, HS.out.2⟩
        | true =>
          have h3' := h3.out.2 rfl
          go_wp2_with fail
          refine (HI4.out _).mono ?_
          rintro _ _ ⟨rfl, rfl⟩
          cases q4 with
          | false =>
            have HZ0 := Lib.hid (HNo.out HQ.out)
            go_wp2_with fail
            refine bodyPost_ret (v := .tuple #[.slice (some ⟨w1.heap.size, 0, none⟩) 0 0, .agg #[.int .i64 0, .int .i64 0, .int .u64 0, .int .i64 0, .string ⟨#[]⟩, .int .i64 0, .int .i64 0]]) (by simp [results, Tryz.results19, go_sem, r0, r1, r2, r3, r4, r5, r6, hbl]) rfl ?_
            rw [HZ0.out]
            exact ⟨some ⟨w1.heap.size, 0, none⟩, 0, rfl, HS.out.1, HS.out.2⟩
          | true =>
            clear h3' h3 HI1 HI2 HI4 HS HNo
            obtain ⟨e0, e1, e2, e3, e4⟩ := Hq.out
            have ha := of_decide_eq_true e2
            have haE := of_decide_eq_true e3
            have hdd := of_decide_eq_true e4
            have hBB := planB_deep e0
            have HZ0 := Lib.hid (HYes.out HQ.out)
            clear e0 e1 e2 e3 e4 Hq HQ HYes
            obtain ⟨N, rfl⟩ := Int.eq_ofNat_of_zero_le ha.1
            rw [Int.toNat_natCast] at HZ0
            obtain ⟨Q, hQ⟩ : ∃ Q, msgRd s sch B (s.size + 1) shape E deep ⟨N, [], zeroE⟩ = Q := ⟨_, rfl⟩
            rw [hQ] at HZ0
            have hadv := msgRd_adv (s := s) (sch := sch) (D := B) (s.size + 1) shape E deep ⟨N, [], zeroE⟩ (by show N ≤ s.size; omega) haE
            have HQlen : Hid (Q.out.length ≤ 1048576000) := Lib.hid (by rw [hQ] at hadv; have h1 := hadv.len; have h2 := hadv.inn; have h3 : (⟨N, [], zeroE⟩ : RdM).out.length = 0 := rfl; rw [h3] at h1; omega)
            clear hadv
            have hrd : RdAt (w1.alloc (.cells #[.slice ua sch.length uc, .int .i64 A, .int .i64 B, .int .i64 C, .string s, .int .i64 N, .slice none 0 0, .int .i64 0, .int .i64 0, .int .u64 0, .int .i64 0, .string ⟨#[]⟩, .int .i64 0, .int .i64 0] 91)) w1.heap.size (.slice ua sch.length uc) sch A B C s (.slice none 0 0) ⟨N, [], zeroE⟩ := ⟨Box.fresh w1 #[.slice ua sch.length uc, .int .i64 A, .int .i64 B, .int .i64 C, .string s, .int .i64 N, .slice none 0 0, .int .i64 0, .int .i64 0, .int .u64 0, .int .i64 0, .string ⟨#[]⟩, .int .i64 0, .int .i64 0] _, OwnE.nil _ _ _, Hu.out.keep (.of_below (hbw.alloc hbw.size _) fun _ h => h) fun b hb => by show b < w1.heap.size; omega, by show N ≤ s.size; omega⟩
            have HMc := l12Msg_any w1.heap.size (.slice ua sch.length uc) sch A B C s Hsch.out hBB.2 hs (s.size + 1) shape E deep (.slice none 0 0) ⟨N, [], zeroE⟩ _ hrd (Nat.zero_le _) haE HE.out (by show s.size - N < s.size + 1; omega) (by omega)
            rw [hQ] at HMc
            have HM := Lib.hid HMc
            clear HMc hrd hQ ha haE hdd hBB
            have hbn : Below w.heap.size w (w1.alloc (.cells #[.slice ua sch.length uc, .int .i64 A, .int .i64 B, .int .i64 C, .string s, .int .i64 N, .slice none 0 0, .int .i64 0, .int .i64 0, .int .u64 0, .int .i64 0, .string ⟨#[]⟩, .int .i64 0, .int .i64 0] 91)) := hbw.alloc hbw.size _
            have hbr2 := hbr1.alloc (.cells #[.slice ua sch.length uc, .int .i64 A, .int .i64 B, .int .i64 C, .string s, .int .i64 N, .slice none 0 0, .int .i64 0, .int .i64 0, .int .u64 0, .int .i64 0, .string ⟨#[]⟩, .int .i64 0, .int .i64 0] 91)
            go_wp2_with fail
            refine HM.out.mono ?_
            rintro e w3 ⟨rfl, o3, h3, hm3⟩
            have hbg := hm3.below (by simp) (fun k hk => by cases hk)
            have hbr3 := hbr2.below hbg hbl
            have hbw3 := hbn.trans (hbg.mono hbw.size)
            have H3 := Lib.hid h3
            clear hbg hm3 h3 hbr2 hbr1 hbn hbw HM r0 r1 r2 r3 r4 r5 r6 s0 s1 s2 s3 s4 s5 s6
            obtain ⟨ao, co, rfl⟩ := H3.out.out.slice
            have Hao : Hid (ao = none → Q.out.length = 0 ∧ co = 0) := Lib.hid fun h => by
              rcases H3.out.out.form with ⟨h1, _⟩ | ⟨g, c, h1, _⟩
              · injection h1 with h1 h2 h3; exact ⟨h2, h3⟩
              · injection h1 with h1; rw [h] at h1; cases h1
            obtain ⟨⟨c0, c1, c2, c3, c4, c5, c6, c7, c8, c9, c10, c11, c12, c13⟩, f5, f6, f7, f8, f9, f10, f11, f12, f13⟩ := H3.out.box.at7
            obtain ⟨⟨r0, r1, r2, r3, r4, r5, r6⟩, s0, s1, s2, s3, s4, s5, s6⟩ := hbr3.seven
            have hgl := H3.out.lt
            have hneg : ¬ w1.heap.size = br := by omega
            have hneg2 : ¬ br = w1.heap.size := by omega
            generalize w1.heap.size = g at H3 hgl hneg hneg2 hbl hbl0 c0 c1 c2 c3 c4 c5 c6 c7 c8 c9 c10 c11 c12 c13 f5 f6 f7 f8 f9 f10 f11 f12 f13 ⊢
            have hszc : (((((((w3.setCell ⟨br, 0, none⟩ (.int .i64 Q.fail.kind)).setCell ⟨br, 1, none⟩ (.int .i64 Q.fail.field)).setCell ⟨br, 2, none⟩ (.int .u64 Q.fail.bits)).setCell ⟨br, 3, none⟩ (.int .i64 Q.fail.len)).setCell ⟨br, 4, none⟩ (.string Q.fail.text)).setCell ⟨br, 5, none⟩ (.int .i64 Q.fail.code)).setCell ⟨br, 6, none⟩ (.int .i64 Q.fail.pos)).heap.size = w3.heap.size := by simp [World.setCell]
            have HbrC : Box (((((((w3.setCell ⟨br, 0, none⟩ (.int .i64 Q.fail.kind)).setCell ⟨br, 1, none⟩ (.int .i64 Q.fail.field)).setCell ⟨br, 2, none⟩ (.int .u64 Q.fail.bits)).setCell ⟨br, 3, none⟩ (.int .i64 Q.fail.len)).setCell ⟨br, 4, none⟩ (.string Q.fail.text)).setCell ⟨br, 5, none⟩ (.int .i64 Q.fail.code)).setCell ⟨br, 6, none⟩ (.int .i64 Q.fail.pos)) br [.int .i64 Q.fail.kind, .int .i64 Q.fail.field, .int .u64 Q.fail.bits, .int .i64 Q.fail.len, .string Q.fail.text, .int .i64 Q.fail.code, .int .i64 Q.fail.pos] := by
              have h := ((((((hbr3.set 0 (.int .i64 Q.fail.kind)).set 1 (.int .i64 Q.fail.field)).set 2 (.int .u64 Q.fail.bits)).set 3 (.int .i64 Q.fail.len)).set 4 (.string Q.fail.text)).set 5 (.int .i64 Q.fail.code)).set 6 (.int .i64 Q.fail.pos)
              exact h
            have hbwC : Below w.heap.size w (((((((w3.setCell ⟨br, 0, none⟩ (.int .i64 Q.fail.kind)).setCell ⟨br, 1, none⟩ (.int .i64 Q.fail.field)).setCell ⟨br, 2, none⟩ (.int .u64 Q.fail.bits)).setCell ⟨br, 3, none⟩ (.int .i64 Q.fail.len)).setCell ⟨br, 4, none⟩ (.string Q.fail.text)).setCell ⟨br, 5, none⟩ (.int .i64 Q.fail.code)).setCell ⟨br, 6, none⟩ (.int .i64 Q.fail.pos)) := ((((((hbw3.setCell (p := ⟨br, 0, none⟩) hbB _).setCell (p := ⟨br, 1, none⟩) hbB _).setCell (p := ⟨br, 2, none⟩) hbB _).setCell (p := ⟨br, 3, none⟩) hbB _).setCell (p := ⟨br, 4, none⟩) hbB _).setCell (p := ⟨br, 5, none⟩) hbB _).setCell (p := ⟨br, 6, none⟩) hbB _
            have HOC : OwnE (((((((w3.setCell ⟨br, 0, none⟩ (.int .i64 Q.fail.kind)).setCell ⟨br, 1, none⟩ (.int .i64 Q.fail.field)).setCell ⟨br, 2, none⟩ (.int .u64 Q.fail.bits)).setCell ⟨br, 3, none⟩ (.int .i64 Q.fail.len)).setCell ⟨br, 4, none⟩ (.string Q.fail.text)).setCell ⟨br, 5, none⟩ (.int .i64 Q.fail.code)).setCell ⟨br, 6, none⟩ (.int .i64 Q.fail.pos)) (g + 1) 34 (.slice ao Q.out.length co) Q.out := by
              have hg1 : br < g + 1 := by omega
              exact ((((((H3.out.out.other (p := ⟨br, 0, none⟩) hg1 _).other (p := ⟨br, 1, none⟩) hg1 _).other (p := ⟨br, 2, none⟩) hg1 _).other (p := ⟨br, 3, none⟩) hg1 _).other (p := ⟨br, 4, none⟩) hg1 _).other (p := ⟨br, 5, none⟩) hg1 _).other (p := ⟨br, 6, none⟩) hg1 _
            have hz3 := hbw3.size
            have HA1 : Hid ((w3.alloc (.cells #[] 34)).ownsRow w.heap.size 34 7 (.slice (some ⟨w3.heap.size, 0, none⟩) 0 0) 0 []) := Lib.hid (OwnE.start w3 w.heap.size 34 hz3)
            have HA2 : Hid (((((((((w3.setCell ⟨br, 0, none⟩ (.int .i64 Q.fail.kind)).setCell ⟨br, 1, none⟩ (.int .i64 Q.fail.field)).setCell ⟨br, 2, none⟩ (.int .u64 Q.fail.bits)).setCell ⟨br, 3, none⟩ (.int .i64 Q.fail.len)).setCell ⟨br, 4, none⟩ (.string Q.fail.text)).setCell ⟨br, 5, none⟩ (.int .i64 Q.fail.code)).setCell ⟨br, 6, none⟩ (.int .i64 Q.fail.pos)).alloc (.cells #[] 34)).ownsRow w.heap.size 34 7 (.slice (some ⟨w3.heap.size, 0, none⟩) 0 0) 0 []) := Lib.hid (by have h := OwnE.start (((((((w3.setCell ⟨br, 0, none⟩ (.int .i64 Q.fail.kind)).setCell ⟨br, 1, none⟩ (.int .i64 Q.fail.field)).setCell ⟨br, 2, none⟩ (.int .u64 Q.fail.bits)).setCell ⟨br, 3, none⟩ (.int .i64 Q.fail.len)).setCell ⟨br, 4, none⟩ (.string Q.fail.text)).setCell ⟨br, 5, none⟩ (.int .i64 Q.fail.code)).setCell ⟨br, 6, none⟩ (.int .i64 Q.fail.pos)) w.heap.size 34 (by rw [hszc]; exact hz3); rw [hszc] at h; exact h)
            have HN1 : Hid (EvsAt (w3.alloc (.cells #[] 34)) (· < w3.heap.size) (.slice ao Q.out.length co) Q.out) := Lib.hid (H3.out.out.evsAll.keep (.of_below ((Below.refl w3.heap.size w3).alloc (Nat.le_refl _) _) fun _ h => h) fun _ h => h)
            have HN2 : Hid (EvsAt ((((((((w3.setCell ⟨br, 0, none⟩ (.int .i64 Q.fail.kind)).setCell ⟨br, 1, none⟩ (.int .i64 Q.fail.field)).setCell ⟨br, 2, none⟩ (.int .u64 Q.fail.bits)).setCell ⟨br, 3, none⟩ (.int .i64 Q.fail.len)).setCell ⟨br, 4, none⟩ (.string Q.fail.text)).setCell ⟨br, 5, none⟩ (.int .i64 Q.fail.code)).setCell ⟨br, 6, none⟩ (.int .i64 Q.fail.pos)).alloc (.cells #[] 34)) (· < w3.heap.size) (.slice ao Q.out.length co) Q.out) := Lib.hid (HOC.evsAll.keep (.of_below ((Below.refl (((((((w3.setCell ⟨br, 0, none⟩ (.int .i64 Q.fail.kind)).setCell ⟨br, 1, none⟩ (.int .i64 Q.fail.field)).setCell ⟨br, 2, none⟩ (.int .u64 Q.fail.bits)).setCell ⟨br, 3, none⟩ (.int .i64 Q.fail.len)).setCell ⟨br, 4, none⟩ (.string Q.fail.text)).setCell ⟨br, 5, none⟩ (.int .i64 Q.fail.code)).setCell ⟨br, 6, none⟩ (.int .i64 Q.fail.pos)).heap.size (((((((w3.setCell ⟨br, 0, none⟩ (.int .i64 Q.fail.kind)).setCell ⟨br, 1, none⟩ (.int .i64 Q.fail.field)).setCell ⟨br, 2, none⟩ (.int .u64 Q.fail.bits)).setCell ⟨br, 3, none⟩ (.int .i64 Q.fail.len)).setCell ⟨br, 4, none⟩ (.string Q.fail.text)).setCell ⟨br, 5, none⟩ (.int .i64 Q.fail.code)).setCell ⟨br, 6, none⟩ (.int .i64 Q.fail.pos))).alloc (Nat.le_refl _) _) fun _ h => h) fun _ h => by rw [← hszc]; exact h)
            have HQl : Hid (Q.out.length ≤ 1048576000) := Lib.hid HQlen.out
            have HB1 : Hid (Box (w3.alloc (.cells #[] 34)) br [.int .i64 0, .int .i64 0, .int .u64 0, .int .i64 0, .string ⟨#[]⟩, .int .i64 0, .int .i64 0] ∧ Below w.heap.size w (w3.alloc (.cells #[] 34))) := Lib.hid ⟨hbr3.alloc _, hbw3.alloc hz3 _⟩
            have HB2 : Hid (Box ((((((((w3.setCell ⟨br, 0, none⟩ (.int .i64 Q.fail.kind)).setCell ⟨br, 1, none⟩ (.int .i64 Q.fail.field)).setCell ⟨br, 2, none⟩ (.int .u64 Q.fail.bits)).setCell ⟨br, 3, none⟩ (.int .i64 Q.fail.len)).setCell ⟨br, 4, none⟩ (.string Q.fail.text)).setCell ⟨br, 5, none⟩ (.int .i64 Q.fail.code)).setCell ⟨br, 6, none⟩ (.int .i64 Q.fail.pos)).alloc (.cells #[] 34)) br [.int .i64 Q.fail.kind, .int .i64 Q.fail.field, .int .u64 Q.fail.bits, .int .i64 Q.fail.len, .string Q.fail.text, .int .i64 Q.fail.code, .int .i64 Q.fail.pos] ∧ Below w.heap.size w ((((((((w3.setCell ⟨br, 0, none⟩ (.int .i64 Q.fail.kind)).setCell ⟨br, 1, none⟩ (.int .i64 Q.fail.field)).setCell ⟨br, 2, none⟩ (.int .u64 Q.fail.bits)).setCell ⟨br, 3, none⟩ (.int .i64 Q.fail.len)).setCell ⟨br, 4, none⟩ (.string Q.fail.text)).setCell ⟨br, 5, none⟩ (.int .i64 Q.fail.code)).setCell ⟨br, 6, none⟩ (.int .i64 Q.fail.pos)).alloc (.cells #[] 34))) := Lib.hid ⟨HbrC.alloc _, hbwC.alloc (by rw [hszc]; exact hz3) _⟩
            have HK1 : Hid (Box (w3.alloc (.cells #[] 34)) g ([.slice ua sch.length uc, .int .i64 A, .int .i64 B, .int .i64 C, .string s, .int .i64 Q.place, .slice ao Q.out.length co] ++ evC Q.fail)) := Lib.hid (H3.out.box.alloc _)
            clear HbrC hbwC HOC hszc
            go_upto_region 5 with fail
            go_region_law (first | (refine step_append_onto _ (by rfl) _ _ 31 (by rfl) w.heap.size 34 i0 _ 7 64 Tryz.underlying31 hi hz0 hz1' hzb (by rfl) (by omega) w3.heap.size 0 0 [] (by rfl) HA1.out ao Q.out.length co (by rfl) Hao.out (Q.out.flatMap evC) (evs_len _) (EvsAt.news HN1.out) evC_one (by unfold maxLen; have := HQl.out; omega) (by have := HQl.out; omega) (by simp [World.setCell]; omega) _ rfl ?_; intro g2 cap2 w5 hown2 hg2 hor2 hlt2; have hb5 : Below w.heap.size w w5 := HB1.out.2.drew.grown hg2 (by simp [World.setCell]; omega) (fun q hq => by cases hq; exact hz3); have hx5 := (HB1.out.1.drew).grownB hg2 (by intro e; cases e; omega); have hk5 := (HK1.out.drew).grownB hg2 (by intro e; cases e; omega); obtain ⟨⟨n0, n1, n2, n3, n4, n5, n6, n7, n8, n9, n10, n11, n12, n13⟩, _⟩ := hk5.at7; obtain ⟨⟨p0, p1, p2, p3, p4, p5, p6⟩, t0, t1, t2, t3, t4, t5, t6⟩ := hx5.seven) | (refine step_append_onto _ (by rfl) _ _ 31 (by rfl) w.heap.size 34 i0 _ 7 64 Tryz.underlying31 hi hz0 hz1' hzb (by rfl) (by omega) w3.heap.size 0 0 [] (by rfl) HA2.out ao Q.out.length co (by rfl) Hao.out (Q.out.flatMap evC) (evs_len _) (EvsAt.news HN2.out) evC_one (by unfold maxLen; have := HQl.out; omega) (by have := HQl.out; omega) (by simp [World.setCell]; omega) _ rfl ?_; intro g2 cap2 w5 hown2 hg2 hor2 hlt2; have hb5 : Below w.heap.size w w5 := HB2.out.2.drew.grown hg2 (by simp [World.setCell]; omega) (fun q hq => by cases hq; exact hz3); have hx5 := (HB2.out.1.drew).grownB hg2 (by intro e; cases e; omega); obtain ⟨⟨p0, p1, p2, p3, p4, p5, p6⟩, t0, t1, t2, t3, t4, t5, t6⟩ := hx5.seven))
            all_goals
              have ho5 : OwnE w5 w.heap.size 34 (.slice (some ⟨g2, 0, none⟩) Q.out.length cap2) Q.out := by unfold OwnE; have h := hown2; simp only [Nat.zero_add, List.nil_append] at h; exact h
              have hg2b : g2 ≠ br := by
                rcases hor2 with h | h
                · omega
                · rw [h]; simp [World.setCell]; omega
              have HO5 := Lib.hid ho5
              have HB5 := Lib.hid hb5
              have HG := Lib.hid hg2b
              clear hown2 hor2 ho5 hg2b hb5 hg2 hlt2
              go_wp2_with fail
              refine bodyPost_ret (v := .tuple #[.slice (some ⟨g2, 0, none⟩) Q.out.length cap2, evV Q.fail]) (by simp [results, Tryz.results19, go_sem, evV, p0, p1, p2, p3, p4, p5, p6]) rfl ?_
              rw [HZ0.out]
              refine ⟨some ⟨g2, 0, none⟩, cap2, rfl, ?_, ?_⟩
              · repeat (first | with_reducible exact HO5.out | refine OwnE.apart ?_ (fun q hq => by cases hq; exact HG.out) _)
              · repeat (first | with_reducible exact HB5.out | refine Below.setCell ?_ hbB _)
end Go.Proofs.YtpkofbdfnbpfpaaGreat.Num


/-
  The walk of the reference's PrefixOf; only new memory is written.
-/
namespace Go.Proofs.YtpkofbdfnbpfpaaGreat.Num
open Go.RowKit Go.Proofs
set_option linter.unusedVariables false
set_option linter.unusedSimpArgs false
attribute [local go_sem] Region.wanted yielded

/-- The head of a list that is read. -/
theorem EvsAt.pre {w : World} {S : Nat → Prop} {a : Option Addr} {n cap : Nat} {l : List Ev} (h : EvsAt w S (.slice a n cap) l) (k : Nat) (hk : k ≤ l.length) : EvsAt w S (.slice a k cap) (l.take k) := by
  by_cases h0 : k = 0
  · subst h0; exact .inl ⟨rfl, a, cap, rfl⟩
  · rcases h with ⟨rfl, _⟩ | ⟨b, o, c, hv, h1, hS, hc⟩
    · simp at hk; omega
    · injection hv with e1 e2 e3
      subst e1 e3
      have hl : (l.take k).length = k := by simp; omega
      refine .inr ⟨b, o, cap, by rw [hl], by omega, hS, fun i hi => ?_⟩
      obtain ⟨cs, g1, g2, g3⟩ := hc i (by omega)
      exact ⟨cs, g1, by rw [List.getElem_take]; exact g2, g3⟩
theorem evPre_no {p q : Ev} (h : p ≠ q) : evPre p q ↔ p.kind = 4 ∧ q.kind = 4 ∧ textPre p.text q.text := ⟨fun h' => h'.resolve_left h, .inr⟩
theorem sameCall {w : World} {v u : Value} {l m : List Ev} {Q : Bool} (hv : EvsAt w (· < w.heap.size) v l) (hu : EvsAt w (· < w.heap.size) u m) (hl : l.length ≤ 1048576000 ∧ m.length ≤ 1048576000) (hQ : decide (l = m) = Q) :
    Calls Tryz.prog 20 #[v, u] w fun e w' => e = .returned (.bool Q) ∧ Below w.heap.size w w' := hQ ▸ specSameEvents_any v u l m w hv hu hl.1 hl.2
set_option maxHeartbeats 8000000 in
set_option maxRecDepth 100000 in
theorem specPrefixOf_any (v u : Value) (l m : List Ev) (w : World) (hv : EvsAt w (· < w.heap.size) v l) (hu : EvsAt w (· < w.heap.size) u m) (hl : SmallE l) (hm : SmallE m) :
    Calls Tryz.prog 22 #[v, u] w fun e w' => e = .returned (.bool (preB l m)) ∧ Below w.heap.size w w' := by
  obtain ⟨R, hR⟩ : ∃ R, preB l m = R := ⟨_, rfl⟩
  rw [hR]
  have HR := Lib.hid hR
  clear hR
  have Hu := Lib.hid hu
  have Hl := Lib.hid hl
  have Hm := Lib.hid hm
  have HC := Lib.hid (specMerged_any v l w hv hl)
  obtain ⟨a, cap, rfl⟩ := hv.len
  obtain ⟨a', cap', rfl⟩ := hu.len
  clear hv hu hl hm
  go_enter Tryz.func22, Tryz.ntmps22
  go_wp2_with fail
  refine HC.out.mono ?_
  rintro e w1 ⟨gx, cx, rfl, hx, hb1⟩
  have Hx1 := Lib.hid hx
  have hz1 := hb1.size
  clear hx
  go_wp2_with fail
  refine (specMerged_any _ m _ (Hu.out.grow hb1 (Nat.le_refl _)) Hm.out).mono ?_
  rintro e w2 ⟨gy, cy, rfl, hy, hb2⟩
  have Hx2 := Lib.hid (Hx1.out.below hb2 (Nat.le_refl _))
  have Hy2 := Lib.hid hy
  have hl2 := hb1.trans (hb2.mono hz1)
  have hxl : (mergedE l).length ≤ 1048576 := Nat.le_trans (merged_len l) Hl.out.1
  have hyl : (mergedE m).length ≤ 1048576 := Nat.le_trans (merged_len m) Hm.out.1
  clear hy Hx1 hb1 hb2 hz1
  have HP : Hid (preMB (mergedE l) (mergedE m) = R) := HR
  generalize mergedE l = x at Hx2 hxl HP ⊢
  generalize mergedE m = y at Hy2 hyl HP ⊢
  by_cases hx0 : x.length = 0
  · obtain rfl : R = true := by rw [← HP.out]; unfold preMB; rw [dif_pos hx0]
    have hx0b : (((x.length : Nat) : Int) == 0) = true := by rw [hx0]; rfl
    have hx0c : (x.length == 0) = true := by rw [hx0]; rfl
    clear hx0
    go_wp2_with fail
    go_ret
    exact ⟨rfl, hl2⟩
  · obtain ⟨i, p, rfl⟩ : ∃ i p, x = i ++ [p] := by
      rcases nil_or_last x with rfl | h
      · simp at hx0
      · exact h
    have hil : (i ++ [p]).length = i.length + 1 := by simp
    rw [hil] at hxl ⊢
    obtain ⟨N, hN⟩ : ∃ N, i.length + 1 = N := ⟨_, rfl⟩
    have hn0 : (((N : Nat) : Int) == 0) = false := by rw [beq_eq_false_iff_ne]; omega
    have hn1 : (N == 0) = false := by rw [beq_eq_false_iff_ne]; omega
    have hw : IntKind.i64.wrap ((N : Int) - 1) = (i.length : Int) := by rw [IntWalk.i64_in _ (by omega)]; omega
    have HN := Lib.hid hN
    have HxO : Hid (OwnE w2 w.heap.size 34 (.slice (some ⟨gx, 0, none⟩) N cx) (i ++ [p])) := Lib.hid (by have := Hx2.out; rw [hil, hN] at this; exact this)
    rw [hN] at hxl ⊢
    clear hN hil Hx2 hx0
    by_cases hgt : N > y.length
    · obtain rfl : R = false := by rw [← HP.out]; unfold preMB; rw [dif_neg (by simp), dif_pos (by simp; have := HN.out; omega)]
      have hgti : (y.length : Int) < (N : Int) := by omega
      go_wp2_with fail
      go_quiet (fail)
      go_wp2_with fail
      go_ret
      exact ⟨rfl, below_drewN hl2 _⟩
    · have hle : i.length < y.length := by have := HN.out; omega
      have hgtd : decide ((y.length : Int) < (N : Int)) = false := decide_eq_false (by omega)
      have hgtd2 : decide (y.length < N) = false := decide_eq_false hgt
      have hiN : i.length < N := by have := HN.out; omega
      have Hpx : Hid (EvsAt w2 (· < w2.heap.size) (.slice (some ⟨gx, 0, none⟩) i.length cx) i) := Lib.hid (by have h := HxO.out.evsAll.pre i.length (by simp); rwa [List.take_left' rfl] at h)
      have Hpy : Hid (EvsAt w2 (· < w2.heap.size) (.slice (some ⟨gy, 0, none⟩) i.length cy) (y.take i.length)) := Lib.hid (Hy2.out.evsAll.pre i.length (by omega))
      have hcx : N ≤ cx := by have h := HxO.out.evsAt; rcases h with ⟨h, _⟩ | ⟨b, o, c, hv, h1, _⟩; · simp at h
                              · injection hv with _ _ e3; subst e3; have := h1.2; simp at this; have := HN.out; omega
      have hcy : y.length ≤ cy := by have h := Hy2.out.evsAt; exact RowAt.cap h
      obtain ⟨Q, hQ⟩ : ∃ Q, decide (i = y.take i.length) = Q := ⟨_, rfl⟩
      have HQ := Lib.hid hQ
      clear hQ hgt
      have HP2 : Hid ((decide (i = y.take i.length) && decide (evPre p (y[i.length]'hle))) = R) := Lib.hid (by
        rw [← HP.out]; unfold preMB
        rw [dif_neg (by simp), dif_neg (by simp; omega)]
        simp)
      have hyz := (Hy2.out.lt gy rfl)
      have hgy : gy < w2.heap.size := hyz.2
      have hgx : gx < w2.heap.size := (HxO.out.lt gx rfl).2
      clear hyz
      have HCs := Lib.hid (sameCall (w := w2.drew) Hpx.out Hpy.out ⟨by omega, by simp; omega⟩ HQ.out)
      have hcxi : (i.length : Int) ≤ (cx : Int) := by omega
      have hcyi : (i.length : Int) ≤ (cy : Int) := by omega
      have hcxn : i.length ≤ cx := by omega
      have hcyn : i.length ≤ cy := by omega
      have h0i : (0 : Int) ≤ (i.length : Int) := by omega
      go_wp2_with fail
      refine wp_region_any (by kernel_rfl) ?_
      change wpAny _ _ _ _ _ _ _ (World.drew _)
      refine wpAny_take (i := 0) (v := .int .i64 N) rfl (by kernel_rfl) (by kernel_rfl) (by kernel_rfl) (fun _ _ _ h => h) (Or.inl ⟨by kernel_rfl, ?_⟩) ?_
      · (intro w; go_simp)
      refine wpAny_take (i := 1) (v := .slice (some ⟨gy, 0, none⟩) y.length cy) rfl (by kernel_rfl) (by kernel_rfl) (by kernel_rfl) (fun _ _ _ h => h) (Or.inl ⟨by kernel_rfl, ?_⟩) ?_
      · (intro w; go_simp)
      refine wpAny_take (i := 2) (v := .int .i64 y.length) rfl (by kernel_rfl) (by kernel_rfl) (by kernel_rfl) (fun _ _ _ h => h) (Or.inl ⟨by kernel_rfl, ?_⟩) ?_
      · (intro w; go_simp)
      refine wpAny_take (i := 3) (v := .bool false) rfl (by kernel_rfl) (by kernel_rfl) (by kernel_rfl) (fun _ _ _ h => h) (Or.inl ⟨by kernel_rfl, ?_⟩) ?_
      · (intro w; go_simp)
      refine wpAny_take (i := 4) (v := .bool false) rfl (by kernel_rfl) (by kernel_rfl) (by kernel_rfl) (fun _ _ _ h => h) (Or.inl ⟨by kernel_rfl, ?_⟩) ?_
      · (intro w; go_simp)
      refine wpAny_take (i := 5) (v := .slice (some ⟨gx, 0, none⟩) N cx) rfl (by kernel_rfl) (by kernel_rfl) (by kernel_rfl) (fun _ _ _ h => h) (Or.inl ⟨by kernel_rfl, ?_⟩) ?_
      · (intro w; go_simp)
      refine wpAny_take (i := 6) (v := .int .i64 N) rfl (by kernel_rfl) (by kernel_rfl) (by kernel_rfl) (fun _ _ _ h => h) (Or.inl ⟨by kernel_rfl, ?_⟩) ?_
      · (intro w; go_simp)
      refine wpAny_take (i := 7) (v := .int .i64 i.length) rfl (by kernel_rfl) (by kernel_rfl) (by kernel_rfl) (fun _ _ _ h => h) (Or.inl ⟨by kernel_rfl, ?_⟩) ?_
      · (intro w; go_simp)
      refine wpAny_take (i := 8) (v := .slice (some ⟨gx, 0, none⟩) i.length cx) rfl (by kernel_rfl) (by kernel_rfl) (by kernel_rfl) (fun _ _ _ h => h) (Or.inl ⟨by kernel_rfl, ?_⟩) ?_
      · (intro w; go_simp)
      refine wpAny_take (i := 9) (v := .slice (some ⟨gy, 0, none⟩) y.length cy) rfl (by kernel_rfl) (by kernel_rfl) (by kernel_rfl) (fun _ _ _ h => h) (Or.inl ⟨by kernel_rfl, ?_⟩) ?_
      · (intro w; go_simp)
      refine wpAny_take (i := 10) (v := .int .i64 N) rfl (by kernel_rfl) (by kernel_rfl) (by kernel_rfl) (fun _ _ _ h => h) (Or.inl ⟨by kernel_rfl, ?_⟩) ?_
      · (intro w; go_simp)
      refine wpAny_take (i := 11) (v := .int .i64 i.length) rfl (by kernel_rfl) (by kernel_rfl) (by kernel_rfl) (fun _ _ _ h => h) (Or.inl ⟨by kernel_rfl, ?_⟩) ?_
      · (intro w; go_simp)
      refine wpAny_take (i := 12) (v := .slice (some ⟨gy, 0, none⟩) i.length cy) rfl (by kernel_rfl) (by kernel_rfl) (by kernel_rfl) (fun _ _ _ h => h) (Or.inl ⟨by kernel_rfl, ?_⟩) ?_
      · (intro w; go_simp)
      refine wpAny_ready (rs := [13]) (by kernel_rfl) (by simp) ?_
      refine AllReady.cons rfl (fun K hK => ?_) AllReady.nil
      go_simp
      go_wp2_with (go_at_call 20; refine HCs.out.mono ?_; rintro e w3 ⟨rfl, hb3⟩)
      try (refine hK _ _ ?_; clear hK K)
      refine wpAny_take (i := 14) (v := .bool (!Q)) rfl (by kernel_rfl) (by kernel_rfl) (by kernel_rfl) (fun _ _ _ h => h) (Or.inl ⟨by kernel_rfl, ?_⟩) ?_
      · (intro w; go_simp)
      refine wpAny_take (i := 15) (v := .bool (!Q)) rfl (by kernel_rfl) (by kernel_rfl) (by kernel_rfl) (fun _ _ _ h => h) (Or.inl ⟨by kernel_rfl, ?_⟩) ?_
      · (intro w; go_simp)
      refine wpAny_done (by kernel_rfl) ?_ _
      have hl3 : Below w.heap.size w w3 := hl2.drew.trans (hb3.mono hl2.size)
      have Hx3 := Lib.hid (HxO.out.drew.below hb3 (Nat.le_refl _))
      have Hy3 := Lib.hid (Hy2.out.drew.below hb3 (Nat.le_refl _))
      have hgy3 : gy < w3.heap.size := Nat.lt_of_lt_of_le hgy hb3.size
      have hgx3 : gx < w3.heap.size := Nat.lt_of_lt_of_le hgx hb3.size
      clear hb3 hl2 HxO Hy2 Hpx Hpy hgx hgy
      cases Q with
      | false =>
        obtain rfl : R = false := by rw [← HP2.out, HQ.out]; rfl
        go_wp2_with fail
        go_ret
        exact ⟨rfl, hl3⟩
      | true =>
        have HR2 : Hid (decide (evPre p (y[i.length]'hle)) = R) := Lib.hid (by rw [← HP2.out, HQ.out]; rfl)
        obtain ⟨x0, x1, x2, x3, x4, x5, x6⟩ := Hx3.out.cellsAt i.length (by simp)
        rw [List.getElem_append_right (Nat.le_refl _)] at x0 x1 x2 x3 x4 x5 x6
        simp only [Nat.sub_self, List.getElem_cons_zero] at x0 x1 x2 x3 x4 x5 x6
        obtain ⟨y0, y1, y2, y3, y4, y5, y6⟩ := Hy3.out.cellsAt i.length hle
        have hili : (i.length : Int) < (N : Int) := by omega
        have hily : (i.length : Int) < (y.length : Int) := by omega
        generalize y[i.length] = q at y0 y1 y2 y3 y4 y5 y6 HR2
        obtain ⟨K, F, Bt, L, Tx, C, P⟩ := p
        obtain ⟨K', F', Bt', L', Tx', C', P'⟩ := q
        simp only at x0 x1 x2 x3 x4 x5 x6 y0 y1 y2 y3 y4 y5 y6
        clear HP HP2 HQ
        by_cases hpq : (⟨K, F, Bt, L, Tx, C, P⟩ : Ev) = ⟨K', F', Bt', L', Tx', C', P'⟩
        · have hE := evEq_as (decide_eq_true hpq)
          unfold evV at hE
          simp only at hE
          obtain rfl : R = true := by rw [← HR2.out]; exact decide_eq_true (.inl hpq)
          clear hpq
          go_wp2_with fail
          go_ret
          exact ⟨rfl, (hl3.alloc hl3.size _).alloc (by have := hl3.size; simp; omega) _⟩
        · have hE := evEq_as (decide_eq_false hpq)
          unfold evV at hE
          simp only at hE
          have HR3 : Hid (decide (K = 4 ∧ K' = 4 ∧ textPre Tx Tx') = R) := Lib.hid (by rw [← HR2.out]; exact decide_eq_decide.2 (evPre_no hpq).symm)
          clear hpq HR2
          have hp5 : Box ((w3.alloc (.cells #[.int .i64 K, .int .i64 F, .int .u64 Bt, .int .i64 L, .string Tx, .int .i64 C, .int .i64 P] 34)).alloc (.cells #[.int .i64 K', .int .i64 F', .int .u64 Bt', .int .i64 L', .string Tx', .int .i64 C', .int .i64 P'] 34)) w3.heap.size [.int .i64 K, .int .i64 F, .int .u64 Bt, .int .i64 L, .string Tx, .int .i64 C, .int .i64 P] := (Box.fresh _ _ _).alloc _
          have hq5 : Box ((w3.alloc (.cells #[.int .i64 K, .int .i64 F, .int .u64 Bt, .int .i64 L, .string Tx, .int .i64 C, .int .i64 P] 34)).alloc (.cells #[.int .i64 K', .int .i64 F', .int .u64 Bt', .int .i64 L', .string Tx', .int .i64 C', .int .i64 P'] 34)) (w3.heap.size + 1) [.int .i64 K', .int .i64 F', .int .u64 Bt', .int .i64 L', .string Tx', .int .i64 C', .int .i64 P'] := by
            have h := Box.fresh (w3.alloc (.cells #[.int .i64 K, .int .i64 F, .int .u64 Bt, .int .i64 L, .string Tx, .int .i64 C, .int .i64 P] 34)) #[.int .i64 K', .int .i64 F', .int .u64 Bt', .int .i64 L', .string Tx', .int .i64 C', .int .i64 P'] 34
            rwa [show (w3.alloc (.cells #[.int .i64 K, .int .i64 F, .int .u64 Bt, .int .i64 L, .string Tx, .int .i64 C, .int .i64 P] 34)).heap.size = w3.heap.size + 1 by simp] at h
          have hl5 : Below w.heap.size w ((w3.alloc (.cells #[.int .i64 K, .int .i64 F, .int .u64 Bt, .int .i64 L, .string Tx, .int .i64 C, .int .i64 P] 34)).alloc (.cells #[.int .i64 K', .int .i64 F', .int .u64 Bt', .int .i64 L', .string Tx', .int .i64 C', .int .i64 P'] 34)) := (hl3.alloc hl3.size _).alloc (by have := hl3.size; simp; omega) _
          go_upto_region 12 with fail
          generalize ((w3.alloc (.cells #[.int .i64 K, .int .i64 F, .int .u64 Bt, .int .i64 L, .string Tx, .int .i64 C, .int .i64 P] 34)).alloc (.cells #[.int .i64 K', .int .i64 F', .int .u64 Bt', .int .i64 L', .string Tx', .int .i64 C', .int .i64 P'] 34)) = w5 at hp5 hq5 hl5 ⊢
          obtain ⟨⟨p0, p1, p2, p3, p4, p5, p6⟩, _⟩ := hp5.seven
          obtain ⟨⟨q0, q1, q2, q3, q4, q5, q6⟩, _⟩ := hq5.seven
          have hpz := hp5.lt
          have hqz := hq5.lt
          clear hp5 hq5 x0 x1 x2 x3 x4 x5 x6 y0 y1 y2 y3 y4 y5 y6 hl3 hgy3 hgx3 hE
          generalize w3.heap.size = gp at p0 p1 p2 p3 p4 p5 p6 q0 q1 q2 q3 q4 q5 q6 hpz hqz ⊢
          by_cases hK : K = 4
          · have kK : (K == 4) = true := by rw [hK]; rfl
            by_cases hK' : K' = 4
            · have kK' : (K' == 4) = true := by rw [hK']; rfl
              by_cases hsz : Tx.size ≤ Tx'.size
              · have hszi : (Tx.size : Int) ≤ (Tx'.size : Int) := by omega
                by_cases hx : Tx'.extract 0 Tx.size = Tx
                · obtain rfl : R = true := by rw [← HR3.out]; exact decide_eq_true ⟨hK, hK', hsz, hx⟩
                  have hB : ((Tx'.extract 0 Tx.size).toList == Tx.toList) = true := by rw [hx]; simp
                  clear hK hK' hx
                  go_wp2_with fail
                  go_quiet (fail)
                  go_wp2_with fail
                  go_ret
                  exact ⟨rfl, below_drewN hl5 _⟩
                · obtain rfl : R = false := by rw [← HR3.out]; exact decide_eq_false fun h => hx h.2.2.2
                  have hB : ((Tx'.extract 0 Tx.size).toList == Tx.toList) = false := neBA hx
                  clear hK hK' hx
                  go_wp2_with fail
                  go_quiet (fail)
                  go_wp2_with fail
                  go_ret
                  exact ⟨rfl, below_drewN hl5 _⟩
              · obtain rfl : R = false := by rw [← HR3.out]; exact decide_eq_false fun h => hsz h.2.2.1
                have hd1 : decide ((Tx.size : Int) ≤ (Tx'.size : Int)) = false := decide_eq_false (by omega)
                have hd2 : decide (Tx.size ≤ Tx'.size) = false := decide_eq_false hsz
                clear hK hK' hsz
                go_wp2_with fail
                go_quiet (fail)
                go_wp2_with fail
                go_ret
                exact ⟨rfl, below_drewN hl5 _⟩
            · obtain rfl : R = false := by rw [← HR3.out]; exact decide_eq_false fun h => hK' h.2.1
              have nK' := neI hK'
              clear hK hK'
              go_wp2_with fail
              go_quiet (fail)
              go_wp2_with fail
              go_ret
              exact ⟨rfl, below_drewN hl5 _⟩
          · obtain rfl : R = false := by rw [← HR3.out]; exact decide_eq_false fun h => hK h.1
            have nK := neI hK
            clear hK
            go_wp2_with fail
            go_quiet (fail)
            go_wp2_with fail
            go_ret
            exact ⟨rfl, below_drewN hl5 _⟩
end Go.Proofs.YtpkofbdfnbpfpaaGreat.Num

