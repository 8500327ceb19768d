/-
  Several texts in one: DrawField DrawText DrawRT RawTextI.
-/
import Derived.Test.YtcbohfncckpolaaGreatDoorDrawBent
import Derived.Test.YtcbohfncckpolaaGreatDoorPick
import Derived.Test.YtcbohfncckpolaaGreatDoorI64
import Derived.Deep.RegionWith
import Derived.Deep.DeepCutAuto
import Derived.Test.YtcbohfncckpolaaGreatDoorFieldTextI
import Derived.Test.YtcbohfncckpolaaGreatDoorPlanD
import Derived.Test.YtcbohfncckpolaaGreatDoorBentIds
import Derived.Test.YtcbohfncckpolaaGreatDoorPlanE
import Derived.Test.YtcbohfncckpolaaGreatDoorWords

/-
  The walks of the reference's draws of a field and of a string that is nearly a text (l9Field, l9Turned): some field; some string that is not much longer. Of what was there only the cursor's block is written.
-/
namespace Go.Proofs.YtcbohfncckpolaaGreatDoor.Num
open Go.RowKit Go.Proofs
set_option linter.unusedVariables false
set_option linter.unusedSimpArgs false

/-- What a draw of a field leaves. -/
def FieldP (B g : Nat) (a : Option Addr) (len cap : Nat) (w : World) (e : Ending) (w' : World) : Prop := ∃ f : RF, e = .returned (fieldV f) ∧ Cur w' B g a len cap ∧ Off w.heap.size g w w'
theorem offDrew {C g : Nat} {a w : World} (h : Off C g a w) : Off C g a w.drew := ⟨h.os, h.tape, h.output, h.size, h.block⟩
def SameW (a b : World) : Prop := b = a
end Go.Proofs.YtcbohfncckpolaaGreatDoor.Num

/-
  The walks of the reference's l9Turned, DrawFieldText and DrawReadField: some field; some string not much longer than a text. Only new memory is written.
-/
namespace Go.Proofs.YtcbohfncckpolaaGreatDoor.Num
open Go.RowKit Go.Proofs
set_option linter.unusedVariables false
set_option linter.unusedSimpArgs false

theorem textF_len0 (f : RF) : (textF f).length ≤ 60 := by
  by_cases h : hasText f
  · exact textF_len h
  · rw [textF_no h]; simp
theorem extract_le (s : ByteArray) (i j : Nat) : (s.extract i j).size ≤ s.size := by rw [ByteArray.size_extract]; omega
/-- What turning a string leaves: a string at most twenty bytes longer. -/
def TurnP (g n : Nat) (w : World) (e : Ending) (w' : World) : Prop := ∃ t : ByteArray, t.size ≤ n + 20 ∧ e = .returned (.string t) ∧ Off w.heap.size g w w'
def turnWords : List ByteArray := [⟨#[32]⟩, ⟨#[44]⟩, ⟨#[59]⟩, ⟨#[58]⟩, ⟨#[48]⟩, ⟨#[49]⟩, ⟨#[112, 97, 99, 107, 101, 100]⟩, ⟨#[32, 114, 101, 112, 101, 97, 116, 101, 100]⟩, ⟨#[120]⟩]
theorem turnWords_le : ∀ p ∈ turnWords, p.size ≤ 9 := by
  intro p hp
  simp only [turnWords, List.mem_cons, List.not_mem_nil, or_false] at hp
  rcases hp with rfl | rfl | rfl | rfl | rfl | rfl | rfl | rfl | rfl <;> decide
set_option maxHeartbeats 4000000 in
set_option maxRecDepth 100000 in
theorem l9Turned_any (B g : Nat) (a : Option Addr) (len cap : Nat) (s : ByteArray) (w : World) (h : Cur w B g a len cap) (hB : B ≤ w.heap.size) (hg : g < w.heap.size) (hs : s.size ≤ 1000000) :
    Calls Tryz.prog 24 #[.pointer (some ⟨g, 0, none⟩), .string s] w (TurnP g s.size w) := by
  have H := Lib.hid h; clear h
  go_enter Tryz.func24, Tryz.ntmps24
  go_wp2_with fail
  refine (l1Below_any B g a len cap _ _ H.out (by omega)).mono ?_
  rintro e w1 ⟨x, x0, x1, rfl, hc1, ho1⟩
  have hx : x < (s.size : Int) + 1 := x1 (by omega)
  obtain ⟨k, rfl⟩ := Int.eq_ofNat_of_zero_le x0
  have hk : k ≤ s.size := by omega
  have hki : (k : Int) ≤ (s.size : Int) := by omega
  have Hc1 := Lib.hid hc1
  have hsz1 := ho1.size
  have Ho1 := Lib.hid (Only.off (C := w.heap.size) ho1 (Nat.le_refl _))
  clear hc1 ho1 x1 hx x0
  go_wp2_with fail
  refine (l1Below_any B g a len cap _ _ Hc1.out (by omega)).mono ?_
  rintro e w2 ⟨y, y0, y1, rfl, hc2, ho2⟩
  have hy : y < 6 := y1 (by omega)
  have Hc2 := Lib.hid hc2
  have hsz2 := ho2.size
  have Ho2 := Lib.hid (Ho1.out.trans (Only.off (C := w.heap.size) ho2 hsz1))
  clear hc2 ho2 y1 Hc1 Ho1
  by_cases h0 : y = 0
  · subst h0
    have hz : 0 ≤ w2.heap.size := Nat.zero_le _
    have hgz : g < w2.heap.size := by omega
    have HP : Hid (Calls Tryz.prog 50 #[.pointer (some ⟨g, 0, none⟩), .slice (some ⟨w2.heap.size, 0, none⟩) 9 9] (w2.alloc (.cells #[.string ⟨#[32]⟩, .string ⟨#[44]⟩, .string ⟨#[59]⟩, .string ⟨#[58]⟩, .string ⟨#[48]⟩, .string ⟨#[49]⟩, .string ⟨#[112, 97, 99, 107, 101, 100]⟩, .string ⟨#[32, 114, 101, 112, 101, 97, 116, 101, 100]⟩, .string ⟨#[120]⟩] 9)).drew fun e w' => ∃ p : ByteArray, (p.size ≤ 9 ∧ (∀ wv, (Op.stringOp .add (s.extract 0 k) p).run Tryz.prog wv = .ok (.string (s.extract 0 k ++ p)) wv) ∧ (∀ wv, (Op.stringOp .add (s.extract 0 k ++ p) (s.extract k s.size)).run Tryz.prog wv = .ok (.string (s.extract 0 k ++ p ++ s.extract k s.size)) wv)) ∧ e = .returned (.string p) ∧ Off w.heap.size g w w') := Lib.hid (by
      have hb2 : Below w2.heap.size w2 (w2.alloc (.cells #[.string ⟨#[32]⟩, .string ⟨#[44]⟩, .string ⟨#[59]⟩, .string ⟨#[58]⟩, .string ⟨#[48]⟩, .string ⟨#[49]⟩, .string ⟨#[112, 97, 99, 107, 101, 100]⟩, .string ⟨#[32, 114, 101, 112, 101, 97, 116, 101, 100]⟩, .string ⟨#[120]⟩] 9)).drew := ((Below.refl _ _).alloc (Nat.le_refl _) _).drew
      have hzz : (w2.alloc (.cells #[.string ⟨#[32]⟩, .string ⟨#[44]⟩, .string ⟨#[59]⟩, .string ⟨#[58]⟩, .string ⟨#[48]⟩, .string ⟨#[49]⟩, .string ⟨#[112, 97, 99, 107, 101, 100]⟩, .string ⟨#[32, 114, 101, 112, 101, 97, 116, 101, 100]⟩, .string ⟨#[120]⟩] 9)).drew.heap.size = w2.heap.size + 1 := by simp
      refine (l1Pick_any B g a len cap w2.heap.size 9 9 turnWords #[.string ⟨#[32]⟩, .string ⟨#[44]⟩, .string ⟨#[59]⟩, .string ⟨#[58]⟩, .string ⟨#[48]⟩, .string ⟨#[49]⟩, .string ⟨#[112, 97, 99, 107, 101, 100]⟩, .string ⟨#[32, 114, 101, 112, 101, 97, 116, 101, 100]⟩, .string ⟨#[120]⟩] 9 (0, 0) (w2.alloc (.cells #[.string ⟨#[32]⟩, .string ⟨#[44]⟩, .string ⟨#[59]⟩, .string ⟨#[58]⟩, .string ⟨#[48]⟩, .string ⟨#[49]⟩, .string ⟨#[112, 97, 99, 107, 101, 100]⟩, .string ⟨#[32, 114, 101, 112, 101, 97, 116, 101, 100]⟩, .string ⟨#[120]⟩] 9)).drew (Hc2.out.other hb2 hgz (by omega)) (heap_alloc_new w2 _) rfl rfl (by omega) (by omega) (by omega)).mono ?_
      rintro e w' ⟨p, hp, rfl, hc, ho⟩
      have hp9 := turnWords_le p hp
      have e1 := extract_le s 0 k
      have e2 := extract_le s k s.size
      exact ⟨p, ⟨hp9, fun wv => run_string_add_sum wv _ _ (by omega), fun wv => run_string_add_sum wv _ _ (by rw [ByteArray.size_append]; omega)⟩, rfl, (Ho2.out.trans (Below.off (hb2.mono (by omega)))).trans (Only.off ho (by omega))⟩)
    have hsz : Hid (∀ p : ByteArray, p.size ≤ 9 → (s.extract 0 k ++ p ++ s.extract k s.size).size ≤ s.size + 20) := Lib.hid fun p hp => by
      rw [ByteArray.size_append, ByteArray.size_append, ByteArray.size_extract, ByteArray.size_extract]
      omega
    clear Ho2 Hc2
    go_upto_region 4 with fail
    go_region_with (go_at_call 50; refine HP.out.mono ?_; rintro e w5 ⟨p, ⟨hp9, a1, a2⟩, rfl, ho5⟩)
    all_goals
      have Ho5 := Lib.hid ho5
      have Hp9 := Lib.hid hp9
      clear ho5 hp9
      go_wp2_with fail
      go_ret
      exact ⟨_, hsz.out _ Hp9.out, rfl, Ho5.out⟩
  · have hy0 : (y == 0) = false := by rw [beq_eq_false_iff_ne]; exact h0
    by_cases h1 : y = 1
    · subst h1
      have hsz : Hid ((s.extract 0 k).size ≤ s.size + 20) := Lib.hid (by have := extract_le s 0 k; omega)
      clear h0
      go_wp2_with fail
      go_ret
      exact ⟨_, hsz.out, rfl, Ho2.out⟩
    · have hy1 : (y == 1) = false := by rw [beq_eq_false_iff_ne]; exact h1
      clear h0 h1
      go_wp2_with fail
      go_ret
      exact ⟨s, by omega, rfl, Ho2.out⟩
/-- What a draw of a string leaves. -/
def StrP (n : Nat) (w : World) (e : Ending) (w' : World) : Prop := ∃ t : ByteArray, t.size ≤ n ∧ e = .returned (.string t) ∧ Below w.heap.size w w'
end Go.Proofs.YtcbohfncckpolaaGreatDoor.Num

/-
  The walks of the reference's draws for RawText and ReadRaw: some description of bounded size, and some string of bounded length.
-/
namespace Go.Proofs.YtcbohfncckpolaaGreatDoor.Num
open Go.RowKit Go.Proofs Go
set_option linter.unusedVariables false

theorem bent_few {ms : List OM} (h : BentSzI ms) : Few (plain ms) := by
  obtain ⟨h0, h7, h14⟩ := h
  have key : ∀ m ∈ plain ms, m.2.length ≤ 14 ∧ -1 ≤ m.1 ∧ m.1 ≤ 100 := fun m hm => by
    obtain ⟨x, hx, rfl⟩ := List.mem_map.1 hm
    obtain ⟨j, hj, rfl⟩ := List.getElem_of_mem hx
    exact ⟨lz_len (h14 j hj), lz_id (h14 j hj)⟩
  exact ⟨by simp [plain]; omega, fun m hm => by have := (key m hm).1; omega, fun m hm => by have := (key m hm).2; unfold I64; omega⟩
theorem drawReadRaw_any (a : Option Addr) (len cap : Nat) (w : World) (B : Nat) (hB : B ≤ w.heap.size) (h : CodeAt w B a len) :
    Calls Tryz.prog 10 #[.slice a len cap] w (StrP 20000 w) := by
  have H := Lib.hid h; clear h
  go_enter Tryz.func10, Tryz.ntmps10
  go_wp2_with fail
  refine (l1New_any B a len cap _ hB H.out).mono ?_
  rintro e w1 ⟨g, rfl, hc1, hb1, hg1, hg1'⟩
  have Hc1 := Lib.hid hc1
  have hz1 := hb1.size
  clear hc1
  go_wp2_with fail
  refine (l6BentI_any B g a len cap _ Hc1.out (by omega) hg1').mono ?_
  rintro e w2 ⟨v, ms, hsz, rfl, hown, hc2, ho2⟩
  have Hc2 := Lib.hid hc2
  have hz2 := ho2.size
  have hb2 : Below w.heap.size w w2 := hb1.trans (ho2.below hg1 hz1)
  have hf := bent_few hsz
  have HT := Lib.hid (specText_any _ (plain ms) w2 hown.rawAtAll hf)
  have hle : (l9R (plain ms)).length ≤ 17000 := by
    have := l9R_take_le hf (plain ms).length
    rwa [List.take_length] at this
  obtain ⟨sT, hsT⟩ : ∃ s : ByteArray, s = ⟨(l9R (plain ms)).toArray⟩ := ⟨_, rfl⟩
  have hsz : sT.size ≤ 17000 := by rw [hsT]; simpa [ByteArray.size] using hle
  rw [← hsT] at HT
  clear hc2 ho2 hb1 Hc1 hsT hle hown hf
  go_wp2_with fail
  refine HT.out.mono ?_
  rintro e w3 ⟨rfl, hb3⟩
  have Hc3 := Lib.hid (Hc2.out.other hb3 (by omega) (by omega))
  have hz3 := hb3.size
  have hb03 := hb2.trans (hb3.mono hb2.size)
  clear hb3 Hc2 HT hb2
  go_wp2_with fail
  refine (l9Turned_any B g a len cap sT _ Hc3.out (by omega) (by omega) (by omega)).mono ?_
  rintro e w4 ⟨t, ht, rfl, ho4⟩
  have hb4 : Below w.heap.size w w4 := hb03.trans (ho4.below hg1 (by omega))
  clear ho4 hb03 Hc3
  go_wp2_with fail
  go_ret
  exact ⟨t, by omega, rfl, hb4⟩
/-- What the draw of a description leaves. -/
def RawP (w : World) (e : Ending) (w' : World) : Prop := ∃ (v : Value) (r : List RM), Few r ∧ e = .returned (.agg #[v]) ∧ RawAt w' (· < w'.heap.size) (.agg #[v]) r ∧ Below w.heap.size w w'
theorem drawRawText_any (a : Option Addr) (len cap : Nat) (w : World) (B : Nat) (hB : B ≤ w.heap.size) (h : CodeAt w B a len) :
    Calls Tryz.prog 6 #[.slice a len cap] w (RawP w) := by
  have H := Lib.hid h; clear h
  have hx0 := Box.fresh w #[.slice none 0 0] 26
  have hb0 : Below w.heap.size w (w.alloc (.cells #[.slice none 0 0] 26)) := (Below.refl _ _).alloc (Nat.le_refl _) _
  have hz0 : w.heap.size < (w.alloc (.cells #[.slice none 0 0] 26)).heap.size := by simp
  go_enter Tryz.func6, Tryz.ntmps6
  go_wp2_with fail
  generalize w.alloc (.cells #[.slice none 0 0] 26) = w0 at hx0 hb0 hz0 ⊢
  refine (l1New_any B a len cap _ (by omega) (H.out.below (hb0.mono hB))).mono ?_
  rintro e w1 ⟨g, rfl, hc1, hb1, hg1, hg1'⟩
  have Hc1 := Lib.hid hc1
  have hx1 := hx0.below hb1 hz0
  have hb01 := hb0.trans (hb1.mono (by omega))
  have hz1 := hb1.size
  clear hc1 hx0 hb0 hb1
  go_wp2_with fail
  refine (l6BentI_any _ g a len cap _ Hc1.out (by omega) hg1').mono ?_
  rintro e w2 ⟨v, ms, hsz, rfl, hown, hc2, hf2⟩
  have hfew := bent_few hsz
  obtain ⟨gm, capm, hv, _, _⟩ := World.ownsRow.form hown.row hsz.1
  subst hv
  have hx2 := Box.offAt hf2 hx1 (by omega) (by omega)
  have hb02 : Below w.heap.size w w2 := hb01.trans (hf2.below (by omega) (by omega))
  have hO := hown.out (k := w.heap.size) (by omega)
  have Hown := Lib.hid (hown.other (p := ⟨w.heap.size, 0, none⟩) (.slice (some ⟨gm, 0, none⟩) ms.length capm) hO.1 hO.2)
  obtain ⟨x0, x1⟩ := hx2.2 0 (by simp)
  have hxs := hx2.set 0 (.slice (some ⟨gm, 0, none⟩) ms.length capm)
  have y0 : (w2.setCell ⟨w.heap.size, 0, none⟩ (.slice (some ⟨gm, 0, none⟩) ms.length capm)).cell? ⟨w.heap.size, 0, none⟩ = some (.slice (some ⟨gm, 0, none⟩) ms.length capm) := (hxs.2 0 (by simp)).1
  have hxl := hx2.1
  clear hc2 hf2 hown hO hx1 hb01 hx2 hxs
  go_wp2_with fail
  refine bodyPost_ret (v := .agg #[.slice (some ⟨gm, 0, none⟩) ms.length capm]) (by simp [results, Tryz.results6, go_sem, y0]) rfl ?_
  exact ⟨_, plain ms, hfew, rfl, Hown.out.rawAtAll, hb02.setCell (by simp) _⟩
end Go.Proofs.YtcbohfncckpolaaGreatDoor.Num

/-
  The walks of the program's msgText and RawText: the text of a description without a violation, else the empty string; only new memory is written.
-/
namespace Go.Proofs.YtcbohfncckpolaaGreatDoor.Num
open Go.RowKit Go.Proofs
set_option linter.unusedVariables false
set_option linter.unusedSimpArgs false

theorem rowAll {w w' : World} {B : Nat} {T : TypeId} {sz n : Nat} {v : Value} {xs : List Value} (h : w.ownsRow B T sz v n xs) (hb : Below w.heap.size w w') : w'.ownsRow B T sz v n xs := by
  obtain ⟨l, h5⟩ := h
  refine ⟨l, ?_⟩
  rcases h5 with h5 | ⟨g, cap, cur, e, a, b, c⟩
  · exact .inl h5
  · refine .inr ⟨g, cap, cur, e, a, ?_, c⟩
    rw [hb.block g (Array.getElem?_eq_some_iff.1 b).1]; exact b
/-- A row of strings that is being filled: the first k are the texts of l. -/
def SRow {α : Type} (w : World) (B g n k : Nat) (t : α → List UInt8) (l : List α) : Prop :=
  ∃ xs : List Value, w.ownsRow B 9 1 (.slice (some ⟨g, 0, none⟩) n n) n xs ∧ ∀ j (hj : j < l.length), j < k → xs[j]? = some (.string (bs (t l[j])))
section
variable {α : Type} {w w' : World} {B g n k : Nat} {t : α → List UInt8} {l : List α}
theorem SRow.below (h : SRow w B g n k t l) (hb : Below w.heap.size w w') : SRow w' B g n k t l := by
  obtain ⟨xs, h1, h2⟩ := h
  exact ⟨xs, rowAll h1 hb, h2⟩
theorem SRow.lt (h : SRow w B g n k t l) : B ≤ g ∧ g < w.heap.size := by
  obtain ⟨xs, h1, _⟩ := h
  exact World.ownsRow.lt h1 g rfl
theorem SRow.slot (h : SRow w B g n k t l) (hk : k < n) : ∃ v, w.cell? ⟨g, k, none⟩ = some v ∧ w.frozen? ⟨g, k, none⟩ = false := by
  obtain ⟨xs, h1, _⟩ := h
  have hl : xs.length = n * 1 := h1.1
  refine ⟨xs[k]'(by omega), ?_, World.ownsRow.frozenAt h1 k⟩
  rw [World.ownsRow.cellAt h1 k (by omega), List.getElem?_eq_getElem (by omega)]
theorem SRow.put (h : SRow w B g n k t l) (hk : k < n) (hl : k < l.length) {s : ByteArray} (hs : s = bs (t l[k])) : SRow (w.setCell ⟨g, k, none⟩ (.string s)) B g n (k + 1) t l := by
  obtain ⟨xs, h1, h2⟩ := h
  have hxl : xs.length = n * 1 := h1.1
  refine ⟨xs.set k (.string s), (World.ownsRow.stored h1 k (.string s)).1, fun j hj hjk => ?_⟩
  by_cases e : j = k
  · subst e
    rw [List.getElem?_set_self (by omega), hs]
  · rw [List.getElem?_set_ne (by omega)]
    exact h2 j hj (by omega)
/-- All of it joined. -/
theorem SRow.join (b : UInt8) (h : SRow w B g l.length l.length t l) (hlen : (joined b t l).length ≤ 1048576) (hl : l.length ≤ 1048576) :
    Calls Tryz.prog 20 #[.slice (some ⟨g, 0, none⟩) l.length l.length, .string ⟨#[b]⟩] w fun e w' => e = .returned (.string ⟨(joined b t l).toArray⟩) ∧ Below w.heap.size w w' := by
  have hgl := h.lt
  obtain ⟨xs, h1, h2⟩ := h
  have hxl : xs.length = l.length * 1 := h1.1
  have hJ : Lib.join ((l.map fun x => bs (t x)).map (·.data.toList)) (ByteArray.mk #[b]).data.toList = joined b t l := by
    cases l with
    | nil => rfl
    | cons x l =>
      rw [List.map_cons, List.map_cons]
      show Lib.join _ [b] = _
      rw [joinTail_joinF, bs_data, List.map_map]
      unfold joined
      simp only
      congr 1
  have hc := Tryz.strings_Join g 0 l.length (l.map fun x => bs (t x)) ⟨#[b]⟩ w (fun j x hx => by
    rw [List.getElem?_map] at hx
    obtain ⟨y, hy, rfl⟩ := Option.map_eq_some_iff.1 hx
    obtain ⟨hj, rfl⟩ := List.getElem?_eq_some_iff.1 hy
    rw [Nat.zero_add, World.ownsRow.cellAt h1 j (by omega)]
    exact h2 j hj hj) hgl.2 (by simp; omega) (by simp) (by rw [hJ]; omega)
  rw [hJ, List.length_map] at hc
  exact hc
end
set_option maxHeartbeats 4000000 in
set_option maxRecDepth 100000 in
theorem implMsgText_any (m : RM) (fv : Value) (w : World) (hf : FieldsAt w (· < w.heap.size) fv m.2) (hl16 : m.2.length ≤ 16) (hid : I64 m.1) (hT : Go.Lib.TabIs Tryz.prog w "internal/strconv.uint64pow10" .u64 Go.Lib.pow10Tab) :
    Calls Tryz.prog 19 #[.agg #[.int .i64 m.1, fv]] w fun e w' => e = .returned (.string ⟨(l9M m).toArray⟩) ∧ Below w.heap.size w w' := by
  obtain ⟨i0, hi, hz0, hz1, hz2⟩ := info_partsW info_strW
  obtain ⟨id, fs⟩ := m
  simp only at hf hl16 hid ⊢
  obtain ⟨fa, fc, rfl⟩ := hf.len
  have H := Lib.hid hf
  have HT : Hid (∀ wx, Below w.heap.size w wx → Go.Lib.TabIs Tryz.prog wx "internal/strconv.uint64pow10" .u64 Go.Lib.pow10Tab) := Lib.hid fun wx hb => tabIs_below hT hb
  have hdl := intDec_len20 hid
  have HD : Hid (∀ wx, Below w.heap.size w wx → Calls Tryz.prog 40 #[.int .i64 id] wx fun e w' => e = .returned (.string ⟨(intDec id).toArray⟩) ∧ Below wx.heap.size wx w') := Lib.hid fun wx hb => implDigits_any id wx hid.1 hid.2 (HT.out _ hb)
  have hfl := fields_le hl16
  have HM : Hid (intDec id ++ [58] ++ fieldsText fs = l9M (id, fs)) := Lib.hid (by unfold l9M; simp)
  generalize l9M (id, fs) = M at HM ⊢
  generalize intDec id = di at hdl HD HM
  obtain ⟨sd, esd⟩ : ∃ S : ByteArray, S = ⟨di.toArray⟩ := ⟨_, rfl⟩
  obtain ⟨s1, es1⟩ : ∃ S : ByteArray, S = ⟨(di ++ [58]).toArray⟩ := ⟨_, rfl⟩
  obtain ⟨sj, esj⟩ : ∃ S : ByteArray, S = ⟨(fieldsText fs).toArray⟩ := ⟨_, rfl⟩
  obtain ⟨sM, esM⟩ : ∃ S : ByteArray, S = ⟨M.toArray⟩ := ⟨_, rfl⟩
  have a1 := sum_run (a := di) (b := [58]) (B := ⟨#[58]⟩) esd rfl es1 (by simp <;> omega)
  have a2 := sum_run (a := di ++ [58]) (b := fieldsText fs) (C := sM) es1 esj (by rw [HM.out]; exact esM) (by simp <;> omega)
  have HJ : Hid (∀ (wx : World) (g : Nat), SRow wx (w.heap.size + 1) g fs.length fs.length textF fs → Calls Tryz.prog 20 #[.slice (some ⟨g, 0, none⟩) fs.length fs.length, .string ⟨#[44]⟩] wx fun e w' => e = .returned (.string sj) ∧ Below wx.heap.size wx w') := Lib.hid fun wx g hS => by
    have h := hS.join 44 (by unfold fieldsText at hfl; omega) (by omega)
    rw [esj]
    exact h
  rw [← esd] at HD
  rw [← esM]
  have hl1 : Below w.heap.size w (w.alloc (.cells #[.int .i64 id, .slice fa fs.length fc] 42)) := (Below.refl _ _).alloc (Nat.le_refl _) _
  have hx1 := Box.fresh w #[.int .i64 id, .slice fa fs.length fc] 42
  clear hf hT hid hfl HM esd es1 esj esM
  go_enter Tryz.func19, Tryz.ntmps19
  go_wp2_with (refine wpList_make_full _ rfl _ _ 39 rfl (w.heap.size + 1) 9 i0 _ 1 Tryz.underlying39 hi hz0 hz1 .i64 .i64 _ _ fs.length rfl rfl rfl rfl (by rw [hz2]; omega) (by unfold maxLen; omega) (by simp) ?_; intro w1 hown hgr; have hm1 := Box.grown hgr hx1 (fun k hk => by cases hk); obtain ⟨m0, m1, _⟩ := hm1.two)
  have hl2 : Below w.heap.size w w1 := hl1.grown hgr (by simp) (fun k hk => by cases hk)
  have hrow : SRow w1 (w.heap.size + 1) (w.heap.size + 1) fs.length 0 textF fs := ⟨_, by simpa using hown, fun j hj h0 => by omega⟩
  clear hown hgr hl1 hx1 m0 m1 hi hz0 hz1 hz2
  go_loopw [13] (fun y wr => ∃ k : Nat, k ≤ fs.length ∧ y = .int .i64 k ∧ Hid (SRow wr (w.heap.size + 1) (w.heap.size + 1) fs.length k textF fs) ∧ Hid (Box wr w.heap.size [.int .i64 id, .slice fa fs.length fc]) ∧ Below w.heap.size w wr) (fun y _ => fs.length - (intOf y).toNat)
  case atStart => exact ⟨0, by omega, rfl, Lib.hid hrow, Lib.hid hm1, hl2⟩
  case round =>
    clear hrow hm1 hl2
    obtain ⟨k, hk, rfl, hrow, hbx, hl⟩ := hrel
    have hzr := hrow.out.lt
    by_cases hkl : k < fs.length
    · have hkli : (k : Int) < (fs.length : Int) := by omega
      obtain ⟨gb, go, gc, gv, gS, gcs⟩ := H.out.cells (by omega)
      obtain ⟨rfl, rfl⟩ : fa = some ⟨gb, go, none⟩ ∧ fc = gc := by injection gv with e1 e2 e3; exact ⟨e1, e3⟩
      obtain ⟨x0, x1, x2, x3, x4⟩ := gcs k hkl
      have HFT : Hid (∀ wx, Below w.heap.size w wx → Calls Tryz.prog 39 #[fieldV fs[k]] wx fun e w' => e = .returned (.string (bs (textF fs[k]))) ∧ Below wx.heap.size wx w') := Lib.hid fun wx hb => implFieldText_any fs[k] wx (HT.out _ hb)
      obtain ⟨st, est⟩ : ∃ s, s = bs (textF fs[k]) := ⟨_, rfl⟩
      have Hst := Lib.hid est
      rw [← est] at HFT
      clear est
      have hgw : gb < wr.heap.size := Nat.lt_of_lt_of_le gS hl.size
      rw [← hl.cell (p := ⟨gb, _, none⟩) gS] at x0 x1 x2 x3 x4
      have Hput : Hid (∀ wx, SRow wx (w.heap.size + 1) (w.heap.size + 1) fs.length k textF fs → SRow (wx.setCell ⟨w.heap.size + 1, k, none⟩ (.string st)) (w.heap.size + 1) (w.heap.size + 1) fs.length (k + 1) textF fs) := Lib.hid fun wx hs => hs.put hkl hkl Hst.out
      clear Hst
      generalize fs[k] = f at x0 x1 x2 x3 x4 HFT
      obtain ⟨A1, A2, A3, A4, A5⟩ := f
      simp only at x0 x1 x2 x3 x4
      unfold fieldV at HFT
      simp only at HFT
      clear gcs gv
      have hbf := Box.fresh wr #[.int .i64 A1, .int .i64 A2, .bool A3, .bool A4, .int .i64 A5] 58
      have hl5 : Below w.heap.size w (wr.alloc (.cells #[.int .i64 A1, .int .i64 A2, .bool A3, .bool A4, .int .i64 A5] 58)) := hl.alloc hl.size _
      have hrow5 := Lib.hid (hrow.out.below ((Below.refl _ _).alloc (Nat.le_refl _) (.cells #[.int .i64 A1, .int .i64 A2, .bool A3, .bool A4, .int .i64 A5] 58)))
      have hbx5 := Lib.hid (hbx.out.alloc (.cells #[.int .i64 A1, .int .i64 A2, .bool A3, .bool A4, .int .i64 A5] 58))
      clear hrow hbx
      go_upto_region 5 with fail
      generalize (wr.alloc (.cells #[.int .i64 A1, .int .i64 A2, .bool A3, .bool A4, .int .i64 A5] 58)) = w5 at hbf hl5 hrow5 hbx5 ⊢
      obtain ⟨y0, y1, y2, y3, y4⟩ := Box.five' hbf
      go_wp2_with fail
      refine (HFT.out _ hl5).mono ?_
      rintro e w6 ⟨rfl, hb6⟩
      have hl6 := hl5.trans (hb6.mono hl5.size)
      have hrow6 := Lib.hid (hrow5.out.below hb6)
      have hbx6 := Lib.hid (hbx5.out.below hb6 hbx5.out.lt)
      clear hb6 hrow5 hbx5 hl5 HFT hbf y0 y1 y2 y3 y4 x0 x1 x2 x3 x4
      obtain ⟨sv, sc, sf⟩ := hrow6.out.slot hkl
      go_wp2_with fail
      go_roundw
      case rel => exact ⟨k + 1, by omega, by go_num, Lib.hid (Hput.out _ hrow6.out), Lib.hid (hbx6.out.other (by simp) _), hl6.setCell (by simp) _⟩
      case measure => simp [intOf]; omega
    · have hge : (fs.length : Int) ≤ (k : Int) := by omega
      have hend : decide (k < fs.length) = false := decide_eq_false hkl
      obtain rfl : k = fs.length := by omega
      obtain ⟨c0, c1, _⟩ := hbx.out.two
      go_wp2_with fail
      refine (HD.out _ hl).mono ?_
      rintro e w6 ⟨rfl, hb6⟩
      have hl6 := hl.trans (hb6.mono hl.size)
      have hrow6 := Lib.hid (hrow.out.below hb6)
      clear hb6 hrow hbx hl HD c0 c1
      go_wp2_with fail
      refine (HJ.out _ _ hrow6.out).mono ?_
      rintro e w7 ⟨rfl, hb7⟩
      have hl7 := hl6.trans (hb7.mono hl6.size)
      clear hb7 hrow6 hl6 HJ
      go_wp2_with fail
      go_ret
      exact ⟨rfl, hl7⟩
set_option maxHeartbeats 4000000 in
set_option maxRecDepth 100000 in
/-- The program's RawText: of a description without a violation its text, else the empty string. -/
theorem implRawText_any (v : Value) (r : List RM) (w : World) (h : RawAt w (· < w.heap.size) v r) (hS : Small r) (hT : Go.Lib.TabIs Tryz.prog w "internal/strconv.uint64pow10" .u64 Go.Lib.pow10Tab) :
    Calls Tryz.prog 7 #[v] w fun e w' => ∃ f, First r f ∧ e = .returned (.string ⟨(rawT r f).toArray⟩) ∧ Below w.heap.size w w' := by
  obtain ⟨i0, hi, hz0, hz1, hz2⟩ := info_partsW info_strW
  obtain ⟨u, rfl, hu⟩ := h
  obtain ⟨a, cap, rfl⟩ := hu.len
  have H := Lib.hid hu
  have HS := Lib.hid hS
  have HT : Hid (∀ wx, Below w.heap.size w wx → Go.Lib.TabIs Tryz.prog wx "internal/strconv.uint64pow10" .u64 Go.Lib.pow10Tab) := Lib.hid fun wx hb => tabIs_below hT hb
  clear hu hS hT
  have hl1 : Below w.heap.size w (w.alloc (.cells #[.slice a r.length cap] 26)) := (Below.refl _ _).alloc (Nat.le_refl _) _
  have hx1 := Box.fresh w #[.slice a r.length cap] 26
  have Hraw : Hid (∀ wx : World, Below w.heap.size w wx → RawAt wx (· < wx.heap.size) (.agg #[.slice a r.length cap]) r) :=
    Lib.hid fun wx hb => ⟨_, rfl, H.out.keep (below_sees hb) fun b hb' => Nat.lt_of_lt_of_le hb' hb.size⟩
  go_enter Tryz.func7, Tryz.ntmps7
  go_wp2_with fail
  generalize (w.alloc (.cells #[.slice a r.length cap] 26)) = w1 at hl1 hx1 ⊢
  refine (implRawOk_any _ r _ (Hraw.out _ hl1) HS.out).mono ?_
  rintro e w2 ⟨f, hf, rfl, hb2⟩
  have hl2 := hl1.trans (hb2.mono hl1.size)
  have hx2 := hx1.below hb2 hx1.lt
  have hz12 : w.heap.size < w2.heap.size := hx2.lt
  have Hf := Lib.hid hf
  clear hf hb2 hl1 hx1
  by_cases h0 : f.1 = 0
  · have hb0 : (f.1 == 0) = true := by rw [beq_iff_eq]; exact h0
    obtain ⟨h6, hA⟩ := first_ok Hf.out h0
    have HF := Lib.hid (few_ok h6 hA)
    have HE : Hid (l9R r = rawT r f) := Lib.hid (by unfold rawT; rw [if_pos h0]; exact l9R_told fun m hm => hA.told hm)
    have hlen := l9R_take_le HF.out r.length
    rw [List.take_length] at hlen
    have HJ : Hid (∀ (wx : World) (B g : Nat), SRow wx B g r.length r.length l9M r → Calls Tryz.prog 20 #[.slice (some ⟨g, 0, none⟩) r.length r.length, .string ⟨#[59]⟩] wx fun e w' => e = .returned (.string ⟨(rawT r f).toArray⟩) ∧ Below wx.heap.size wx w') := Lib.hid fun wx B g hS => by
      have h := hS.join 59 (by omega) (by omega)
      rw [← HE.out]
      exact h
    obtain ⟨T, hTe⟩ : ∃ T, rawT r f = T := ⟨_, rfl⟩
    rw [hTe] at HJ
    have HTe := Lib.hid hTe
    clear h0 hA hlen HE hTe
    obtain ⟨s0, _⟩ := hx2.one
    go_wp2_with (refine wpList_make_full _ rfl _ _ 39 rfl w2.heap.size 9 i0 _ 1 Tryz.underlying39 hi hz0 hz1 .i64 .i64 _ _ r.length rfl rfl rfl rfl (by rw [hz2]; omega) (by unfold maxLen; omega) (by simp) ?_; intro w3 hown hgr; have hm3 := Box.grown hgr hx2 (fun k hk => by cases hk); obtain ⟨m0, _⟩ := hm3.one)
    have hl3 : Below w.heap.size w w3 := hl2.grown hgr (by simpa using hl2.size) (fun k hk => by cases hk)
    have hrow : SRow w3 w2.heap.size w2.heap.size r.length 0 l9M r := ⟨_, by simpa using hown, fun j hj h0 => by omega⟩
    clear hown hgr hl2 hx2 s0 hi hz0 hz1 hz2
    go_loopw [16] (fun y wr => ∃ k : Nat, k ≤ r.length ∧ y = .int .i64 k ∧ Hid (SRow wr w2.heap.size w2.heap.size r.length k l9M r) ∧ Below w.heap.size w wr) (fun y _ => r.length - (intOf y).toNat)
    case atStart => exact ⟨0, by omega, rfl, Lib.hid hrow, hl3⟩
    case round =>
      clear hrow hm3 hl3 m0
      obtain ⟨k, hk, rfl, hrow, hl⟩ := hrel
      have hzr := hrow.out.lt
      by_cases hkl : k < r.length
      · have hkli : (k : Int) < (r.length : Int) := by omega
        obtain ⟨b, o, c, hv, hbS, hcs⟩ := H.out.cells (by omega)
        obtain ⟨rfl, rfl⟩ : a = some ⟨b, o, none⟩ ∧ cap = c := by injection hv with e1 e2 e3; exact ⟨e1, e3⟩
        obtain ⟨fv, q0, q1, hfv⟩ := hcs k hkl
        clear hcs hv
        have hmem : r[k] ∈ r := List.getElem_mem hkl
        have hf16 := HF.out.2.1 _ hmem
        have hid := HF.out.2.2 _ hmem
        have HMT : Hid (∀ wx, Below w.heap.size w wx → Calls Tryz.prog 19 #[.agg #[.int .i64 r[k].1, fv]] wx fun e w' => e = .returned (.string (bs (l9M r[k]))) ∧ Below wx.heap.size wx w') := Lib.hid fun wx hb =>
          implMsgText_any r[k] fv wx (hfv.keep (below_sees hb) fun b hb' => Nat.lt_of_lt_of_le hb' hb.size) hf16 hid (HT.out _ hb)
        obtain ⟨st, est⟩ : ∃ s, s = bs (l9M r[k]) := ⟨_, rfl⟩
        have Hput : Hid (∀ wx, SRow wx w2.heap.size w2.heap.size r.length k l9M r → SRow (wx.setCell ⟨w2.heap.size, k, none⟩ (.string st)) w2.heap.size w2.heap.size r.length (k + 1) l9M r) := Lib.hid fun wx hs => hs.put hkl hkl est
        rw [← est] at HMT
        obtain ⟨fa, fc, rfl⟩ := hfv.len
        rw [← hl.cell (p := ⟨b, _, none⟩) hbS] at q0 q1
        have hbw : b < wr.heap.size := Nat.lt_of_lt_of_le hbS hl.size
        generalize r[k].1 = id at q0 HMT
        generalize r[k].2.length = nf at q1 HMT
        clear est hmem hf16 hid hfv
        have hbf := Box.fresh wr #[.int .i64 id, .slice fa nf fc] 42
        have hl5 : Below w.heap.size w (wr.alloc (.cells #[.int .i64 id, .slice fa nf fc] 42)) := hl.alloc hl.size _
        have hrow5 := Lib.hid (hrow.out.below ((Below.refl _ _).alloc (Nat.le_refl _) (.cells #[.int .i64 id, .slice fa nf fc] 42)))
        clear hrow
        go_upto_region 7 with fail
        generalize (wr.alloc (.cells #[.int .i64 id, .slice fa nf fc] 42)) = w5 at hbf hl5 hrow5 ⊢
        obtain ⟨y0, y1, _⟩ := hbf.two
        go_wp2_with fail
        refine (HMT.out _ hl5).mono ?_
        rintro e w6 ⟨rfl, hb6⟩
        have hl6 := hl5.trans (hb6.mono hl5.size)
        have hrow6 := Lib.hid (hrow5.out.below hb6)
        clear hb6 hrow5 hl5 HMT hbf y0 y1 q0 q1
        obtain ⟨sv, sc, sf⟩ := hrow6.out.slot hkl
        go_wp2_with fail
        go_roundw
        case rel => exact ⟨k + 1, by omega, by go_num, Lib.hid (Hput.out _ hrow6.out), hl6.setCell (by simp; omega) _⟩
        case measure => simp [intOf]; omega
      · have hge : (r.length : Int) ≤ (k : Int) := by omega
        have hend : decide (k < r.length) = false := decide_eq_false hkl
        obtain rfl : k = r.length := by omega
        go_wp2_with fail
        refine (HJ.out _ _ _ hrow.out).mono ?_
        rintro e w7 ⟨rfl, hb7⟩
        have hl7 := hl.trans (hb7.mono hl.size)
        clear hb7 hrow hl HJ
        go_wp2_with fail
        go_ret
        exact ⟨f, Hf.out, by rw [HTe.out]; rfl, hl7⟩
  · have hb0 : (f.1 == 0) = false := by rw [beq_eq_false_iff_ne]; exact h0
    have HE : Hid (rawT r f = []) := Lib.hid (by unfold rawT; rw [if_neg h0])
    clear h0
    go_wp2_with fail
    go_ret
    exact ⟨f, Hf.out, by rw [HE.out]; rfl, hl2⟩
end Go.Proofs.YtcbohfncckpolaaGreatDoor.Num
