/-
  The walk of the program's table of kinds (a map from words, made by a literal), and of KindWord, which ranges over it: whatever the order, it gives the kind's word.
-/
import Derived.Test.YtcbohfncckpolaaGreatDoorKind
import Derived.Test.YtcbohfncckpolaaGreatDoorInsert
namespace Go.Proofs.YtcbohfncckpolaaGreatDoor.Num
open Go.RowKit Go.Proofs Go Go.WideMaps
set_option linter.unusedVariables false

/-- The table as read. -/
def KD : DataW Unit := .map [(.string [98, 111, 111, 108], .lit (.int .i64 3)), (.string [98, 121, 116, 101, 115], .lit (.int .i64 7)), (.string [101, 105, 103, 104, 116], .lit (.int .i64 5)), (.string [102, 111, 117, 114], .lit (.int .i64 4)),
  (.string [109, 115, 103], .lit (.int .i64 8)), (.string [115, 105, 110, 116], .lit (.int .i64 2)), (.string [116, 101, 120, 116], .lit (.int .i64 6)), (.string [117, 105, 110, 116], .lit (.int .i64 1))]
theorem kd_put : (((((((((DataW.map [] : DataW Unit).put (.string [117, 105, 110, 116]) (.lit (.int .i64 1))).put (.string [115, 105, 110, 116]) (.lit (.int .i64 2))).put (.string [98, 111, 111, 108]) (.lit (.int .i64 3))).put (.string [102, 111, 117, 114]) (.lit (.int .i64 4))).put (.string [101, 105, 103, 104, 116]) (.lit (.int .i64 5))).put (.string [116, 101, 120, 116]) (.lit (.int .i64 6))).put (.string [98, 121, 116, 101, 115]) (.lit (.int .i64 7))).put (.string [109, 115, 103]) (.lit (.int .i64 8))) = KD := by
  kernel_rfl
def keyW (k : Int) : Lit := .string (wordR k).data.toList
theorem kd_at {k : Int} (h : 1 ≤ k ∧ k ≤ 8) : KD.atKey (keyW k) (.lit (.int .i64 0)) = .lit (.int .i64 k) := by
  rcases kind_cases k with h' | h'
  · rcases h' with rfl | rfl | rfl | rfl | rfl | rfl | rfl | rfl <;> rfl
  · exact absurd h h'
theorem kd_has {k : Int} (h : 1 ≤ k ∧ k ≤ 8) : Maps.has KD (keyW k) = true := by
  rcases kind_cases k with h' | h'
  · rcases h' with rfl | rfl | rfl | rfl | rfl | rfl | rfl | rfl <;> rfl
  · exact absurd h h'
theorem kd_key {kl : Lit} (h : Maps.has KD kl = true) : ∃ k, (1 ≤ k ∧ k ≤ 8) ∧ kl = keyW k := by
  obtain ⟨p, hp, hk⟩ := List.any_eq_true.1 (show List.any _ _ = true from h)
  have e := WideAt.sameKey_eq hk
  simp only [List.mem_cons, List.not_mem_nil, or_false] at hp
  rcases hp with rfl | rfl | rfl | rfl | rfl | rfl | rfl | rfl
  · exact ⟨3, by omega, e.symm⟩
  · exact ⟨7, by omega, e.symm⟩
  · exact ⟨5, by omega, e.symm⟩
  · exact ⟨4, by omega, e.symm⟩
  · exact ⟨8, by omega, e.symm⟩
  · exact ⟨2, by omega, e.symm⟩
  · exact ⟨6, by omega, e.symm⟩
  · exact ⟨1, by omega, e.symm⟩
/-- An entry that comes: its key is its kind's word. -/
theorem kd_entry {kl : Lit} {c : Int} (h : Maps.has KD kl = true) (hat : ∀ zd, KD.atKey kl zd = .lit (.int .i64 c)) : (1 ≤ c ∧ c ≤ 8) ∧ kl = keyW c := by
  obtain ⟨k, hk, rfl⟩ := kd_key h
  have e := hat (.lit (.int .i64 0))
  rw [kd_at hk] at e
  obtain rfl : k = c := by injection e with e; injection e with _ e
  exact ⟨hk, rfl⟩
theorem key_apart {k c : Int} (hk : 1 ≤ k ∧ k ≤ 8) (hc : 1 ≤ c ∧ c ≤ 8) (h : c ≠ k) : (keyW k).sameKey (keyW c) = false := by
  cases e : (keyW k).sameKey (keyW c)
  · rfl
  · have e' := kd_at hk
    rw [WideAt.sameKey_eq e, kd_at hc] at e'
    injection e' with e'
    injection e' with _ e'
    exact absurd e' h
theorem lawW : Maps.Keyed Tryz.prog 9 := Maps.string_keyed Tryz.underlying9

/-- An entry of the table's literal. -/
theorem ins_step {w : World} {ops : Array Oper} {rest : List Oper} {a : Act} {Q : Exit → Act → World → Prop} {b n : Nat} {D : DataW Unit} {s : ByteArray} {c : Int} {p : String} {af : Array Edge} (hown : w.ownsMap Tryz.prog 9 (plainElem Tryz.prog 3) b n D)
    (hm : a.eval (.tmp 1) = .map (some b)) (hn : n < maxLen) (hs : s.size ≤ maxLen) (hc : (Lit.int .i64 c).wf = true)
    (hK : ∀ w', w'.ownsMap Tryz.prog 9 (plainElem Tryz.prog 3) b (n + 1) (D.put (.string s.data.toList) (.lit (.int .i64 c))) → w.grownBy w' (some b) → wpList Tryz.prog ops Q rest (a.put none undef) w') :
    wpList Tryz.prog ops Q ({ dst := none, op := Op.insert 123 (.tmp 1) (.const (.string s)) (.const (.int .i64 c)), type := 0, pos := p, after := af, guard := none } :: rest) a w :=
  wpList_insert_own w rfl _ _ _ 123 rfl 9 3 lawW Tryz.underlying123 _ b n D hm hown hn _ _ _ rfl rfl (WideMaps.keyOf_string_mk Tryz.underlying9 hs) _ [] (plainElem_int Tryz.underlying3 hc) hK
set_option maxRecDepth 100000 in
theorem kinds_any (w : World) : Calls Tryz.prog 83 #[] w fun e w' => e = .returned (.map (some w.heap.size)) ∧ w'.ownsMap Tryz.prog 9 (plainElem Tryz.prog 3) w.heap.size 8 KD ∧ w.grownBy w' none := by
  rw [← kd_put]
  have hown := World.ownsMap_made (H := Unit) w Tryz.prog 9 (plainElem Tryz.prog 3)
  have hgr : w.grownBy (w.alloc (.map #[] 0)) none := World.grownBy_alloc w _ none
  have hmm := @run_makeMap Tryz.prog
  go_enter Tryz.func83, Tryz.ntmps83
  go_wp2_with (first
    | (refine ins_step hown rfl (by decide) (by decide) (by decide) ?_; clear hown; intro w' hown hg; have hgr := hgr.andThen hg (fun j hj => by cases hj; exact Or.inl (Nat.le_refl _)); clear hg)
    | go_in)
  go_ret
  exact ⟨rfl, hown, hgr⟩
set_option maxRecDepth 100000 in
theorem implKindWord_any (k : Int) (w : World) : Calls Tryz.prog 64 #[.int .i64 k] w fun e w' => e = .returned (.string (wordR k)) ∧ Below w.heap.size w w' := by
  go_enter Tryz.func64, Tryz.ntmps64
  go_wp2_with (first
    | (go_at_call 83; refine (kinds_any _).mono ?_; rintro e w1 ⟨rfl, hown, hg1⟩)
    | (at_range; refine wpList_range_own _ rfl _ 123 rfl 9 3 lawW Tryz.underlying123 _ w.heap.size 8 _ rfl hown ?_; intro w2 hrg2 hg2 hs2)
    | go_in)
  go_frame
  go_loopw [3] (fun _ wr => ∃ (left : Lit → Bool) (cnt : Nat), wr.ranges Tryz.prog 9 (plainElem Tryz.prog 3) w.heap.size w1.heap.size 8 KD left cnt ∧ Hid ((∀ kl, left kl = true → Maps.has KD kl = true) ∧ ((1 ≤ k ∧ k ≤ 8) → left (keyW k) = true)) ∧ Below w.heap.size w wr)
    (fun _ wr => wr.rangeLeft w.heap.size w1.heap.size)
  case atStart =>
    exact ⟨_, _, hrg2, Lib.hid ⟨fun _ h => h, kd_has⟩, ((Below.refl _ _).grown hg1 (Nat.le_refl _) (fun j hj => by cases hj)).grown hg2 hg1.size (fun j hj => by cases hj)⟩
  case round =>
    obtain ⟨left, cnt, hrg, hinv, hnx⟩ := hrel
    go_wp2_with (first
      | (at_next; refine wpList_next_ranges _ rfl _ rfl 9 lawW (plainElem Tryz.prog 3) Value.string (Value.int .i64) (fun key kl hk => by obtain ⟨x, hx, _⟩ := keyOf_strB Tryz.underlying9 hk; exact ⟨x, hx⟩) (fun v y hv => by obtain ⟨c, rfl, _⟩ := plainElem_int_inv Tryz.underlying3 hv; exact ⟨c, rfl⟩) w.heap.size w1.heap.size 8 _ _ _ rfl hrg ?_ ?_)
      | go_in)
    · intro hc0 hl0
      have hno : ¬ (1 ≤ k ∧ k ≤ 8) := fun h => by have e := hinv.out.2 h; rw [hl0] at e; cases e
      have hw := word_no hno
      clear hno hl0 hinv hc0
      go_wp2
      go_ret
      rw [hw]
      exact ⟨rfl, hnx⟩
    · intro x c kl yd yp w2 cnt2 hkey hlk hv hat hrg3 hlt hg3 hs3 hen
      obtain ⟨x', ex, rfl⟩ := keyOf_strB Tryz.underlying9 hkey
      injection ex with ex
      subst ex
      obtain ⟨c', ec, ey, _⟩ := plainElem_int_inv Tryz.underlying3 hv
      injection ec with _ ec
      subst ec
      injection ey with ey _
      subst ey
      obtain ⟨hc, hxk⟩ := kd_entry (hinv.out.1 _ hlk) hat
      have hx : x = wordR c := by
        injection hxk with hxk
        rcases x with ⟨⟨x⟩⟩
        simp at hxk
        rw [hxk]
      have hnx3 := hnx.grown hg3 hnx.size (fun j hj => by cases hj; exact hg1.size)
      have Hc := Lib.hid hc
      clear hs3 hkey hv hat hlk hc hg3
      by_cases hck : c = k
      · subst hck
        have hb : (c == c) = true := by simp
        go_wp2
        go_ret
        exact ⟨rfl, hnx3⟩
      · have hb : (c == k) = false := by rw [beq_eq_false_iff_ne]; exact hck
        have Hn := Lib.hid hck
        clear hck
        go_wp2
        go_roundw
        case rel =>
          refine ⟨_, cnt2, hrg3, Lib.hid ⟨fun kl h => hinv.out.1 kl (by simp at h; exact h.1), fun h => ?_⟩, hnx3⟩
          rw [hxk, hinv.out.2 h, key_apart h Hc.out Hn.out]
          rfl
        case measure => rw [hrg3.left_eq, hrg.left_eq]; exact hlt
end Go.Proofs.YtcbohfncckpolaaGreatDoor.Num
