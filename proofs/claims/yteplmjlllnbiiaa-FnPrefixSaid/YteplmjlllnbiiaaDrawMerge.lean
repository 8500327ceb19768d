/-
  The walks of the reference's draws of stage 11 (l11List, DrawShattered, DrawPrefixOf): short lists of events with small texts; of what was there only the cursor's block is written.
-/
import Derived.Test.YteplmjlllnbiiaaDrawEv
import Derived.Test.YteplmjlllnbiiaaOwnEv
import Derived.Test.YteplmjlllnbiiaaAppend
import Derived.Test.YteplmjlllnbiiaaPrefixS
import Derived.Deep.AppendLies
namespace Go.Proofs.Yteplmjlllnbiiaa.Num
open Go.RowKit Go.Proofs
set_option linter.unusedVariables false
set_option linter.unusedSimpArgs false
attribute [local go_sem] Region.wanted yielded

/-- A list that may be drawn: n events at most. -/
def DrawnL (n : Nat) (l : List Ev) : Prop := l.length ≤ n ∧ ∀ e ∈ l, DrawnE e
theorem DrawnL.snoc {n : Nat} {l : List Ev} {e : Ev} (h : DrawnL n l) (he : DrawnE e) : DrawnL (n + 1) (l ++ [e]) := ⟨by simp; exact h.1, fun x hx => by
  rcases List.mem_append.1 hx with hx | hx
  · exact h.2 x hx
  · obtain rfl : x = e := by simpa using hx
    exact he⟩
theorem DrawnL.take {n : Nat} {l : List Ev} (h : DrawnL n l) (k : Nat) : DrawnL n (l.take k) := ⟨by simp; have := h.1; omega, fun e he => h.2 e (List.mem_of_mem_take he)⟩
theorem DrawnL.more {n m : Nat} {l : List Ev} (h : DrawnL n l) (hn : n ≤ m) : DrawnL m l := ⟨Nat.le_trans h.1 hn, h.2⟩
theorem texts_bound {b : Nat} : ∀ {l : List Ev}, (∀ e ∈ l, e.text.size ≤ b) → textsLen l ≤ b * l.length
  | [], _ => by simp [textsLen]
  | e :: l, h => by
    have h1 := texts_bound (l := l) fun x hx => h x (by simp [hx])
    have h2 := h e (by simp)
    simp only [textsLen, List.map_cons, List.sum_cons, List.length_cons] at h1 ⊢
    rw [Nat.mul_succ]; omega
theorem DrawnL.small {n : Nat} {l : List Ev} (h : DrawnL n l) (hn : n ≤ 100000) : SmallE l := ⟨by have := h.1; omega, by
  have h1 := texts_bound fun e he => (h.2 e he).2
  have := h.1
  omega⟩
theorem OwnE.off {w w' : World} {B g : Nat} {T : TypeId} {v : Value} {l : List Ev} (h : OwnE w B T v l) (ho : Off w.heap.size g w w') (hg : g < B) : OwnE w' B T v l := by
  refine h.kept (row := some g) ⟨ho.os, ho.tape, ho.output, ho.size, fun i hi hn => ho.block i hi fun e => hn (by rw [e])⟩ ?_
  cases hv : v.ownBlock with
  | none => exact .inl rfl
  | some k => exact .inr fun e => by have := (h.lt k hv).1; have := Option.some.inj e; omega
theorem grown_off {w w' : World} {B g : Nat} {row : Option Nat} (h : w.grownBy w' row) (hB : B ≤ w.heap.size) (hr : ∀ q, row = some q → B ≤ q) : Off B g w w' :=
  ⟨h.os, h.tape, h.output, h.size, fun k hk _ => h.block k (by omega) (by intro e; have := hr k e.symm; omega)⟩
set_option maxHeartbeats 8000000 in
set_option maxRecDepth 100000 in
theorem l11List_any (B g : Nat) (a : Option Addr) (len cap : Nat) (w : World) (h : Cur w B g a len cap) (hB : B ≤ w.heap.size) (hg : g < w.heap.size) :
    Calls Try.prog 33 #[.pointer (some ⟨g, 0, none⟩)] w fun x w' => ∃ (l : List Ev) (go cp : Nat), DrawnL 8 l ∧ x = .returned (.slice (some ⟨go, 0, none⟩) l.length cp) ∧ OwnE w' w.heap.size 31 (.slice (some ⟨go, 0, none⟩) l.length cp) l ∧ Cur w' B g a len cap ∧ Off w.heap.size g w w' := by
  obtain ⟨i0, hi, hz0, hz1, hz2⟩ := info_parts info_event
  have H := Lib.hid h; clear h
  have HO0 := OwnE.start w w.heap.size 31 (Nat.le_refl _)
  have hb0 : Below w.heap.size w (w.alloc (.cells #[] 31)) := (Below.refl _ _).alloc (Nat.le_refl _) _
  have hz0' : (w.alloc (.cells #[] 31)).heap.size = w.heap.size + 1 := by simp
  go_enter Try.func33, Try.ntmps33
  go_wp2_with fail
  generalize w.alloc (.cells #[] 31) = w1 at HO0 hb0 hz0' ⊢
  refine (l1Below_any B g a len cap _ _ (H.out.other hb0 hg hB) (by omega)).mono ?_
  rintro e w2 ⟨r, r0, r1, rfl, hc2, ho2⟩
  have hr : r < 9 := r1 (by omega)
  obtain ⟨N, rfl⟩ := Int.eq_ofNat_of_zero_le r0
  have hN : N < 9 := by omega
  have HOw2 := Lib.hid (OwnE.off HO0 (Only.off ho2 (Nat.le_refl _)) hg)
  have Hc2 := Lib.hid hc2
  have Hf2 : Hid (Off w.heap.size g w w2) := Lib.hid ((Below.off hb0).trans (Only.off ho2 (by omega)))
  clear HO0 hb0 hz0' hc2 ho2 r0 r1 hr
  go_wp2_with fail
  go_loopw [3, 5] (fun o i wr => ∃ (k go cp : Nat) (l : List Ev), k ≤ N ∧ i = .int .i64 k ∧ o = .slice (some ⟨go, 0, none⟩) k cp ∧ Hid (l.length = k) ∧ Hid (DrawnL k l) ∧ Hid (OwnE wr w.heap.size 31 (.slice (some ⟨go, 0, none⟩) k cp) l) ∧ Hid (Cur wr B g a len cap) ∧ Hid (Off w.heap.size g w wr)) (fun _ i _ => N - (intOf i).toNat)
  case atStart => exact ⟨0, _, _, [], by omega, rfl, rfl, Lib.hid rfl, Lib.hid ⟨by simp, by simp⟩, HOw2, Hc2, Hf2⟩
  case round =>
    clear HOw2 Hc2 Hf2
    obtain ⟨k, go, cp, l, hk, rfl, rfl, hlen, hdl, hown, hcur, hoff⟩ := hrel
    by_cases hlt : k < N
    · have hlti : (k : Int) < (N : Int) := by omega
      go_wp2_with fail
      refine (l1Once_any B g a len cap _ _ hcur.out (by omega)).mono ?_
      rintro e w3 ⟨b, rfl, hc3, ho3⟩
      have HO3 := Lib.hid (hown.out.off (Only.off ho3 (Nat.le_refl _)) hg)
      have hz3 := hoff.out.size
      have Hf3 := Lib.hid (hoff.out.trans (Only.off ho3 hz3))
      have Hc3 := Lib.hid hc3
      have hz3' : w.heap.size ≤ w3.heap.size := Hf3.out.size
      clear hc3 ho3 hown hcur hoff hz3
      cases b with
      | true =>
        go_wp2_with fail
        refine (l1Pick_any B g a len cap _ 5 5 [⟨#[97]⟩, ⟨#[98, 99]⟩, ⟨#[100, 101, 102]⟩, ⟨#[]⟩, ⟨#[103, 104, 105, 106, 107, 108]⟩] _ _ _ _ (Hc3.out.other ((Below.refl w3.heap.size _).alloc (Nat.le_refl _) _) (by omega) (by omega)) (heap_alloc_new _ _) rfl rfl (by omega) (by omega) (by omega)).mono ?_
        rintro e w4 ⟨s, hs, rfl, hc4, ho4⟩
        have hs8 : s.size ≤ 8 := by
          simp only [List.mem_cons, List.not_mem_nil, or_false] at hs
          rcases hs with rfl | rfl | rfl | rfl | rfl <;> simp [ByteArray.size]
        have HO4 := Lib.hid (OwnE.off (HO3.out.alloc _) (Only.off ho4 (Nat.le_refl _)) hg)
        have Hf4 := Lib.hid (Hf3.out.trans ((Below.off ((Below.refl _ _).alloc hz3' _)).trans (Only.off ho4 (by simp; omega))))
        have Hc4 := Lib.hid hc4
        have hz4 : w.heap.size ≤ w4.heap.size := Hf4.out.size
        have Hd : Hid (DrawnE ⟨4, 0, 0, 0, s, 0, 0⟩) := Lib.hid ⟨⟨by simp only; omega, by simp only; omega, by simp only; omega, by simp only; omega, by simp only; omega, by simp only; omega, by simp only; omega⟩, hs8⟩
        clear hc4 ho4 hs hs8 HO3 Hf3 Hc3 hz3'
        have HrN : Hid (w4.ownsRow w.heap.size 31 7 (.slice (some ⟨go, 0, none⟩) k cp) k (l.flatMap evC)) := Lib.hid (by have h := HO4.out; unfold OwnE at h; rw [hlen.out] at h; exact h)
        have Hnew := Lib.hid (heap_alloc_new w4 (.cells #[.int .i64 4, .int .i64 0, .int .u64 0, .int .i64 0, .string s, .int .i64 0, .int .i64 0] 31))
        go_wp2_with (at_builtin; refine wpList_append_lies _ (by rfl) (.tmp 16) (.tmp 21) 24 (by rfl) w.heap.size 31 i0 _ 7 64 Try.underlying24 hi hz0 hz1 hz2 (by rfl) (by omega) (.slice (some ⟨go, 0, none⟩) k cp) k _ (by rfl) (World.ownsRow.alloc HrN.out _) ⟨w4.heap.size, 0, none⟩ 1 1 (evC ⟨4, 0, 0, 0, s, 0, 0⟩) (by rfl) (by rfl) (fun j u hj => World.news_of_block Hnew.out j u hj) (by intro u hu; simp [evC] at hu; rcases hu with rfl | rfl | rfl | rfl | rfl | rfl | rfl <;> rfl) (by omega) (by unfold maxLen; omega) (by omega) (by simp; omega) _ rfl ?_; intro g2 cap2 w5 hown5 hg5 hor5 hlt5)
        have Hb5 : Hid (Below w.heap.size w4 w5) := Lib.hid (((Below.refl _ _).alloc hz4 _).grown hg5 (by simp; omega) (fun q hq => (World.ownsRow.lt HrN.out q hq).1))
        have HO5 : Hid (OwnE w5 w.heap.size 31 (.slice (some ⟨g2, 0, none⟩) (k + 1) cap2) (l ++ [⟨4, 0, 0, 0, s, 0, 0⟩])) := Lib.hid (by unfold OwnE; rw [List.length_append, hlen.out, flat_snoc]; exact hown5)
        clear hown5 hg5 hor5
        go_roundw
        case rel => exact ⟨k + 1, g2, cap2, l ++ [⟨4, 0, 0, 0, s, 0, 0⟩], by omega, by go_num, rfl, Lib.hid (by rw [List.length_append, hlen.out]; rfl), Lib.hid (hdl.out.snoc Hd.out), HO5, Lib.hid (Hc4.out.other Hb5.out hg hB), Lib.hid (Hf4.out.trans (Below.off Hb5.out))⟩
        case measure => simp [intOf]; omega
      | false =>
        go_wp2_with fail
        refine (l10Right_any B g a len cap _ Hc3.out (by omega) (by omega)).mono ?_
        rintro e w4 ⟨⟨K, F, Bt, L, Tx, C, P⟩, hd, rfl, hc4, ho4⟩
        unfold evV
        have HO4 := Lib.hid (HO3.out.off ho4 hg)
        have Hf4 := Lib.hid (Hf3.out.trans (ho4.mono hz3'))
        have Hc4 := Lib.hid hc4
        have hz4 : w.heap.size ≤ w4.heap.size := Hf4.out.size
        have Hd := Lib.hid hd
        clear hc4 ho4 hd HO3 Hf3 Hc3 hz3'
        have HrN : Hid (w4.ownsRow w.heap.size 31 7 (.slice (some ⟨go, 0, none⟩) k cp) k (l.flatMap evC)) := Lib.hid (by have h := HO4.out; unfold OwnE at h; rw [hlen.out] at h; exact h)
        have Hnew := Lib.hid (heap_alloc_new w4 (.cells #[.int .i64 K, .int .i64 F, .int .u64 Bt, .int .i64 L, .string Tx, .int .i64 C, .int .i64 P] 31))
        go_wp2_with (at_builtin; refine wpList_append_lies _ (by rfl) (.tmp 23) (.tmp 26) 24 (by rfl) w.heap.size 31 i0 _ 7 64 Try.underlying24 hi hz0 hz1 hz2 (by rfl) (by omega) (.slice (some ⟨go, 0, none⟩) k cp) k _ (by rfl) (World.ownsRow.alloc HrN.out _) ⟨w4.heap.size, 0, none⟩ 1 1 (evC ⟨K, F, Bt, L, Tx, C, P⟩) (by rfl) (by rfl) (fun j u hj => World.news_of_block Hnew.out j u hj) (by intro u hu; simp [evC] at hu; rcases hu with rfl | rfl | rfl | rfl | rfl | rfl | rfl <;> rfl) (by omega) (by unfold maxLen; omega) (by omega) (by simp; omega) _ rfl ?_; intro g2 cap2 w5 hown5 hg5 hor5 hlt5)
        have Hb5 : Hid (Below w.heap.size w4 w5) := Lib.hid (((Below.refl _ _).alloc hz4 _).grown hg5 (by simp; omega) (fun q hq => (World.ownsRow.lt HrN.out q hq).1))
        have HO5 : Hid (OwnE w5 w.heap.size 31 (.slice (some ⟨g2, 0, none⟩) (k + 1) cap2) (l ++ [⟨K, F, Bt, L, Tx, C, P⟩])) := Lib.hid (by unfold OwnE; rw [List.length_append, hlen.out, flat_snoc]; exact hown5)
        clear hown5 hg5 hor5
        go_roundw
        case rel => exact ⟨k + 1, g2, cap2, l ++ [⟨K, F, Bt, L, Tx, C, P⟩], by omega, by go_num, rfl, Lib.hid (by rw [List.length_append, hlen.out]; rfl), Lib.hid (hdl.out.snoc Hd.out), HO5, Lib.hid (Hc4.out.other Hb5.out hg hB), Lib.hid (Hf4.out.trans (Below.off Hb5.out))⟩
        case measure => simp [intOf]; omega
    · have hge : (N : Int) ≤ (k : Int) := by omega
      have hend : decide (k < N) = false := decide_eq_false hlt
      go_wp2_with fail
      go_ret
      exact ⟨l, go, cp, hdl.out.more (by omega), by rw [hlen.out]; rfl, by rw [hlen.out]; exact hown.out, hcur.out, hoff.out⟩
theorem drawShattered_any (B : Nat) (a : Option Addr) (len cap : Nat) (w : World) (hB : B ≤ w.heap.size) (h : CodeAt w B a len) :
    Calls Try.prog 12 #[.slice a len cap] w fun x w' => ∃ (l : List Ev) (go cp : Nat) (n : Int), DrawnL 8 l ∧ (-1 ≤ n ∧ n ≤ 9223372036854775807) ∧ x = .returned (.tuple #[.slice (some ⟨go, 0, none⟩) l.length cp, .int .i64 n]) ∧ OwnE w' w.heap.size 31 (.slice (some ⟨go, 0, none⟩) l.length cp) l ∧ Below w.heap.size w w' := by
  have H := Lib.hid h; clear h
  go_enter Try.func12, Try.ntmps12
  go_wp2_with fail
  refine (l1New_any B a len cap _ hB H.out).mono ?_
  rintro e w1 ⟨g, rfl, hc1, hb1, hg1, hg1'⟩
  have Hc1 := Lib.hid hc1; clear hc1
  have hz1 := hb1.size
  go_wp2_with fail
  refine (l11List_any B g a len cap _ Hc1.out (by omega) (by omega)).mono ?_
  rintro e w2 ⟨l, go, cp, hd, rfl, ho, hc2, hf2⟩
  have HO2 := Lib.hid ho
  have Hd := Lib.hid hd
  have Hc2 := Lib.hid hc2
  have hb2 : Below w.heap.size w1 w2 := hf2.below (by omega) hz1
  have hz2 := hf2.size
  clear hd ho hc2 hf2
  go_wp2_with fail
  refine (l1PickInt_any B g a len cap _ 7 7 [1, 2, 3, 5, 0, -1, 9223372036854775807] _ _ _ _ (Hc2.out.other ((Below.refl w2.heap.size _).alloc (Nat.le_refl _) _) (by omega) (by omega)) (heap_alloc_new _ _) rfl rfl (by omega) (by omega) (by omega)).mono ?_
  rintro e w3 ⟨n, hn, rfl, hc3, ho3⟩
  have hn2 : -1 ≤ n ∧ n ≤ 9223372036854775807 := by
    simp only [List.mem_cons, List.not_mem_nil, or_false] at hn
    omega
  have hlt := HO2.out.lt go rfl
  have HO3 := Lib.hid (OwnE.off ((HO2.out).alloc _) (Only.off ho3 (Nat.le_refl _)) hg1')
  have hb3 : Below w.heap.size w2 w3 := ((Below.refl _ _).alloc (by omega) _).trans (Only.below ho3 (by omega) (by simp; omega))
  clear hn hc3 ho3 HO2
  go_wp2_with fail
  go_ret2
  exact ⟨l, go, cp, n, Hd.out, hn2, rfl, HO3.out.wide hz1, (hb1.trans hb2).trans hb3⟩
end Go.Proofs.Yteplmjlllnbiiaa.Num
