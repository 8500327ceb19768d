/-
  The walks of spec.Unhex and impl.Unhex: both give the bytes of pairs of lower-case hexadecimal digits and true, and at every other string the empty string and false; only new memory is written.
-/
import Derived.Test.YtofeefkhelibpaaHex
import Derived.Defers
import Derived.Deep.RegionWith
namespace Go.Proofs.Ytofeefkhelibpaa.Num
open Go.RowKit Go.Proofs
attribute [local go_sem ↓] Go.wp_at_zero Go.wp_at_succ

theorem bcell {W w1 : World} (hb : Below W.heap.size W w1) : (∀ b o, b < W.heap.size → w1.cell? ⟨b, o, none⟩ = W.cell? ⟨b, o, none⟩) ∧ (∀ b o, b < W.heap.size → w1.frozen? ⟨b, o, none⟩ = W.frozen? ⟨b, o, none⟩) :=
  ⟨fun b o h => hb.cell (p := ⟨b, o, none⟩) h, fun b o h => hb.frozen (p := ⟨b, o, none⟩) h⟩
def half (c : UInt8) : Int := if 48 ≤ c.toNat ∧ c.toNat ≤ 57 then (c.toNat : Int) - 48 else if 97 ≤ c.toNat ∧ c.toNat ≤ 102 then (c.toNat : Int) - 97 + 10 else -1
def unhexP : List UInt8 → Option (List UInt8)
  | [] => some []
  | [_] => none
  | a :: b :: r => if half a < 0 ∨ half b < 0 then none else (unhexP r).map (UInt8.ofNat (16 * half a + half b).toNat :: ·)
def unhexL (l : List UInt8) : List UInt8 × Bool := match unhexP l with
  | some o => (o, true)
  | none => ([], false)
theorem half_range (c : UInt8) : -1 ≤ half c ∧ half c ≤ 15 := by unfold half; split <;> (try split) <;> omega
theorem unhexP_odd : ∀ l : List UInt8, l.length % 2 = 1 → unhexP l = none
  | [], h => by simp at h
  | [_], _ => rfl
  | a :: b :: r, h => by
    simp only [unhexP]
    split
    · rfl
    · rw [unhexP_odd r (by simp only [List.length_cons] at h; omega)]; rfl
/-- The state of a reader in the midst: the bytes o are read, k letters are used up. -/
def unhAt (l o : List UInt8) (k : Nat) : Prop := unhexP l = (unhexP (l.drop k)).map (o ++ ·)
theorem unhAt_zero (l : List UInt8) : unhAt l [] 0 := by unfold unhAt; simp
theorem unhAt_done {l o : List UInt8} {k : Nat} (h : unhAt l o k) (hk : l.length ≤ k) : unhexL l = (o, true) := by
  unfold unhAt at h
  rw [List.drop_of_length_le hk] at h
  unfold unhexL; rw [h]; simp [unhexP]
theorem drop_two {l : List UInt8} {k : Nat} (hk : k + 1 < l.length) : l.drop k = l[k] :: l[k + 1] :: l.drop (k + 2) := by
  rw [List.drop_eq_getElem_cons (by omega), List.drop_eq_getElem_cons (by omega)]
theorem unhAt_bad {l o : List UInt8} {k : Nat} (h : unhAt l o k) (hk : k + 1 < l.length) (hb : half l[k] < 0 ∨ half l[k + 1] < 0) : unhexL l = ([], false) := by
  unfold unhAt at h
  rw [drop_two hk] at h
  simp only [unhexP, if_pos hb, Option.map_none] at h
  unfold unhexL; rw [h]
theorem unhAt_step {l o : List UInt8} {k : Nat} (h : unhAt l o k) (hk : k + 1 < l.length) (hb : ¬ (half l[k] < 0 ∨ half l[k + 1] < 0)) : unhAt l (o ++ [UInt8.ofNat (16 * half l[k] + half l[k + 1]).toNat]) (k + 2) := by
  unfold unhAt at h ⊢
  rw [drop_two hk] at h
  simp only [unhexP, if_neg hb, Option.map_map] at h
  rw [h]
  congr 1
  funext r
  simp

theorem l1Half_any (c : UInt8) (w : World) :
    Calls Try.prog 26 #[.int .u8 c.toNat] w fun e w' => e = .returned (.int .i64 (half c)) ∧ w = w' := by
  have hc : c.toNat < 256 := c.toNat_lt
  by_cases h1 : 48 ≤ c.toNat
  · by_cases h2 : c.toNat ≤ 57
    · have Hh : Hid (half c = (c.toNat : Int) - 48) := Lib.hid (by unfold half; rw [if_pos ⟨h1, h2⟩])
      go_enter Try.func26, Try.ntmps26
      go_wp2_with fail
      go_ret
      exact ⟨by rw [Hh.out]; rfl, rfl⟩
    · by_cases h3 : 97 ≤ c.toNat
      · by_cases h4 : c.toNat ≤ 102
        · have Hh : Hid (half c = (c.toNat : Int) - 97 + 10) := Lib.hid (by unfold half; rw [if_neg (by omega), if_pos ⟨h3, h4⟩])
          go_enter Try.func26, Try.ntmps26
          go_wp2_with fail
          go_ret
          exact ⟨by rw [Hh.out]; rfl, rfl⟩
        · have Hh : Hid (half c = -1) := Lib.hid (by unfold half; rw [if_neg (by omega), if_neg (by omega)])
          go_enter Try.func26, Try.ntmps26
          go_wp2_with fail
          go_ret
          exact ⟨by rw [Hh.out]; rfl, rfl⟩
      · have Hh : Hid (half c = -1) := Lib.hid (by unfold half; rw [if_neg (by omega), if_neg (by omega)])
        go_enter Try.func26, Try.ntmps26
        go_wp2_with fail
        go_ret
        exact ⟨by rw [Hh.out]; rfl, rfl⟩
  · have Hh : Hid (half c = -1) := Lib.hid (by unfold half; rw [if_neg (by omega), if_neg (by omega)])
    go_enter Try.func26, Try.ntmps26
    go_wp2_with fail
    go_ret
    exact ⟨by rw [Hh.out]; rfl, rfl⟩

theorem specUnhex_odd (s : ByteArray) (w : World) (hs : s.size ≤ 9223372036854775807) (hm : (s.size : Int) % 2 = 1) :
    Calls Try.prog 13 #[.string s] w fun e w' => e = .returned (.tuple #[.string ⟨#[]⟩, .bool false]) ∧ Below w.heap.size w w' := by
  go_enter Try.func13, Try.ntmps13
  go_wp2_with fail
  go_ret2
  exact ⟨rfl, (Below.refl _ _).alloc (Nat.le_refl _) _⟩
set_option maxHeartbeats 800000 in
theorem specUnhex_even (s : ByteArray) (w : World) (hs : s.size ≤ 140737488355327) (hm : ((s.size : Int) % 2 == 1) = false) :
    Calls Try.prog 13 #[.string s] w fun e w' => e = .returned (.tuple #[.string ⟨(unhexL s.data.toList).1.toArray⟩, .bool (unhexL s.data.toList).2]) ∧ Below w.heap.size w w' := by
  obtain ⟨i0, hi, hz0, hz1, hz2⟩ := info_parts info_u8
  have Hm : Hid (s.size % 2 = 0) := Lib.hid (by rw [beq_eq_false_iff_ne] at hm; omega)
  go_enter Try.func13, Try.ntmps13
  go_wp2_with fail
  go_loopw [4, 5] (fun v i wr => ∃ (k : Nat) (o : List UInt8), k ≤ s.size ∧ i = .int .i64 k ∧ OwnB wr w.heap.size 5 v o ∧ Below w.heap.size w wr ∧ o.length ≤ k ∧ unhAt s.data.toList o k ∧ Hid (k % 2 = 0)) (fun _ i _ => s.size - (intOf i).toNat)
  case atStart => exact ⟨0, [], Nat.zero_le _, rfl, OwnB.empty (Nat.le_refl _), (Below.refl _ _).alloc (Nat.le_refl _) _, Nat.le_refl _, unhAt_zero _, Lib.hid rfl⟩
  case round =>
    obtain ⟨k, o, hk, rfl, hown, hb, hol, hat, Hk⟩ := hrel
    by_cases hlt : k < s.size
    · have hlt2 : k + 1 < s.size := by have h1 := Hk.out; have h2 := Hm.out; omega
      have hll : s.data.toList.length = s.size := by simp
      have h1 := half_range s[k]
      have h2 := half_range s[k + 1]
      obtain ⟨h1a, h1b⟩ := h1
      obtain ⟨h2a, h2b⟩ := h2
      have Hl := Lib.hid hll; clear hll
      by_cases hneg : half s[k] < 0 ∨ half s[k + 1] < 0
      · have Hu : Hid (unhexL s.data.toList = ([], false)) := Lib.hid (unhAt_bad hat (by rw [Hl.out]; exact hlt2) hneg)
        clear hat
        rcases hneg with hneg | hneg
        · go_wp2_with (go_at_call 26; refine (l1Half_any _ _).mono ?_; rintro e w' ⟨rfl, rfl⟩)
          go_ret2
          exact ⟨by rw [Hu.out]; rfl, hb⟩
        · by_cases hneg1 : half s[k] < 0
          · go_wp2_with (go_at_call 26; refine (l1Half_any _ _).mono ?_; rintro e w' ⟨rfl, rfl⟩)
            go_ret2
            exact ⟨by rw [Hu.out]; rfl, hb⟩
          · go_wp2_with (go_at_call 26; refine (l1Half_any _ _).mono ?_; rintro e w' ⟨rfl, rfl⟩)
            go_ret2
            exact ⟨by rw [Hu.out]; rfl, hb⟩
      · have Hs := Lib.hid (unhAt_step hat (by rw [Hl.out]; exact hlt2) hneg)
        clear hat
        have hp1 : 0 ≤ half s[k] := by omega
        have hp2 : 0 ≤ half s[k + 1] := by omega
        clear hneg
        have hbv : [Value.int .u8 (16 * half s[k] + half s[k + 1])] = [UInt8.ofNat (16 * half s[k] + half s[k + 1]).toNat].map byteV := by rw [List.map_cons, byteV_of _ (by omega) (by omega)]; rfl
        have Hbv := Lib.hid hbv; clear hbv
        have hsz := hb.size
        go_wp2_with (first | (go_at_call 26; refine (l1Half_any _ _).mono ?_; rintro e w' ⟨rfl, rfl⟩) | (at_builtin; refine wpList_appB rfl _ _ 22 rfl w.heap.size 5 i0 Try.underlying22 hi hz0 hz1 hz2 u4 o rfl (hown.alloc _) wr.heap.size _ (0, 0) (heap_alloc_new _ _) 1 1 rfl _ Hbv.out rfl (by omega) (by omega) (by simp; omega) ?_; intro v' w1 hown1 hb1))
        go_roundw
        case rel =>
          have hk2 : Hid ((k + 2) % 2 = 0) := Lib.hid (by have := Hk.out; omega)
          have hol2 : (o ++ [UInt8.ofNat (16 * half s[k] + half s[k + 1]).toNat]).length ≤ k + 2 := by rw [List.length_append, List.length_singleton]; omega
          exact ⟨k + 2, _, by omega, by go_num, hown1, (hb.alloc hb.size _).trans hb1, hol2, Hs.out, hk2⟩
        case measure => simp [intOf]; omega
    · have hcv1 := run_convB (P := Try.prog) (w := wr) (B := w.heap.size) (v := u4) (l := o) 22 9 Try.underlying22 Try.underlying5 Try.underlying9 hown
      have Hu : Hid (unhexL s.data.toList = (o, true)) := Lib.hid (unhAt_done hat (by simp; omega))
      go_wp2_with fail
      go_ret2
      exact ⟨by rw [Hu.out]; rfl, hb⟩
theorem specUnhex_any (s : ByteArray) (w : World) (hs : s.size ≤ 140737488355327) :
    Calls Try.prog 13 #[.string s] w fun e w' => e = .returned (.tuple #[.string ⟨(unhexL s.data.toList).1.toArray⟩, .bool (unhexL s.data.toList).2]) ∧ Below w.heap.size w w' := by
  by_cases h : s.size % 2 = 1
  · have hu : unhexL s.data.toList = ([], false) := by unfold unhexL; rw [unhexP_odd _ (by simpa using h)]
    rw [hu]
    exact specUnhex_odd s w (by omega) (by omega)
  · exact specUnhex_even s w hs (by rw [beq_eq_false_iff_ne]; omega)

theorem half_dig (c : UInt8) : Go.Lib.indexByte [48, 49, 50, 51, 52, 53, 54, 55, 56, 57, 97, 98, 99, 100, 101, 102] c = half c := by
  have h : ∀ n : Fin 256, Go.Lib.indexByte [48, 49, 50, 51, 52, 53, 54, 55, 56, 57, 97, 98, 99, 100, 101, 102] (UInt8.ofNat n.val) = half (UInt8.ofNat n.val) := by decide +kernel
  have := h ⟨c.toNat, c.toNat_lt⟩
  simpa using this
theorem digitIn16_yes (c : UInt8) (w : World) (h : 0 ≤ half c) :
    Calls Try.prog 33 #[.int .u8 c.toNat, .int .i64 16] w fun e w' => e = .returned (.int .u64 (half c)) ∧ w = w' := by
  have hi := half_dig c
  have hr := half_range c
  obtain ⟨hr1, hr2⟩ := hr
  go_enter Try.func33, Try.ntmps33
  go_wp2_with fail
  refine (Try.strings_IndexByte _ _ _).mono ?_
  rintro e w' ⟨rfl, rfl⟩
  go_wp2
  go_ret
  exact ⟨rfl, rfl⟩
theorem digitIn16_no (c : UInt8) (w : World) (h : half c < 0) :
    Calls Try.prog 33 #[.int .u8 c.toNat, .int .i64 16] w fun e w' => Panics e ∧ w = w' := by
  have hi := half_dig c
  go_enter Try.func33, Try.ntmps33
  go_wp2_with fail
  refine (Try.strings_IndexByte _ _ _).mono ?_
  rintro e w' ⟨rfl, rfl⟩
  go_wp2
  exact ⟨rfl, ⟨_, _, rfl⟩, rfl⟩

theorem or16 (a b : Int) (h1 : 0 ≤ a) (h2 : a ≤ 15) (h3 : 0 ≤ b) (h4 : b ≤ 15) : bits BinOp.or IntKind.u64 (a * 16) b = 16 * a + b := by
  have h : ∀ x y : Fin 16, bits BinOp.or IntKind.u64 ((x.val : Int) * 16) (y.val : Int) = 16 * (x.val : Int) + (y.val : Int) := by decide +kernel
  obtain ⟨m, rfl⟩ := Int.eq_ofNat_of_zero_le h1
  obtain ⟨n, rfl⟩ := Int.eq_ofNat_of_zero_le h3
  exact h ⟨m, by omega⟩ ⟨n, by omega⟩
/-- What bytesOfHex does. -/
def UnPost (l : List UInt8) (e : Ending) : Prop := ((unhexL l).2 = true ∧ e = .returned (.string ⟨(unhexL l).1.toArray⟩)) ∨ (unhexL l = ([], false) ∧ Panics e)
theorem bytesOfHex_odd (s : ByteArray) (w : World) (hs : s.size ≤ 9223372036854775807) (hm : ((s.size : Int) % 2 == 0) = false) :
    Calls Try.prog 23 #[.string s] w fun e w' => Panics e ∧ w = w' := by
  go_enter Try.func23, Try.ntmps23
  go_wp2_with fail
  exact ⟨rfl, ⟨_, _, rfl⟩, rfl⟩
set_option maxHeartbeats 800000 in
theorem bytesOfHex_even (s : ByteArray) (w : World) (hs : s.size ≤ 140737488355327) (hm : ((s.size : Int) % 2 == 0) = true) :
    Calls Try.prog 23 #[.string s] w fun e w' => UnPost s.data.toList e ∧ Below w.heap.size w w' := by
  obtain ⟨i0, hi, hz0, hz1, hz2⟩ := info_parts info_u8
  have Hm : Hid (s.size % 2 = 0) := Lib.hid (by rw [beq_iff_eq] at hm; omega)
  have hn : ((s.size / 2 : Nat) : Int) = (s.size : Int) / 2 := by omega
  have Hn := Lib.hid hn; clear hn
  go_enter Try.func23, Try.ntmps23
  go_wp2_with (at_make; refine wpList_makeB rfl _ _ 22 rfl w.heap.size 5 i0 Try.underlying22 hi hz0 hz1 hz2 _ (s.size / 2) rfl rfl Hn.out.symm (by omega) (Nat.le_refl _) ?_; intro v0 w0 hown0 hb0)
  go_loopw [3, 4] (fun v i wr => ∃ (k : Nat) (o : List UInt8), k ≤ s.size ∧ i = .int .i64 k ∧ OwnB wr w.heap.size 5 v o ∧ Below w.heap.size w wr ∧ o.length ≤ k ∧ unhAt s.data.toList o k ∧ Hid (k % 2 = 0)) (fun _ i _ => s.size - (intOf i).toNat)
  case atStart => exact ⟨0, [], Nat.zero_le _, rfl, hown0, hb0, Nat.le_refl _, unhAt_zero _, Lib.hid rfl⟩
  case round =>
    obtain ⟨k, o, hk, rfl, hown, hb, hol, hat, Hk⟩ := hrel
    by_cases hlt : k < s.size
    · have hlt2 : k + 1 < s.size := by have h1 := Hk.out; have h2 := Hm.out; omega
      have hll : s.data.toList.length = s.size := by simp
      have h1 := half_range s[k]
      have h2 := half_range s[k + 1]
      obtain ⟨h1a, h1b⟩ := h1
      obtain ⟨h2a, h2b⟩ := h2
      have Hl := Lib.hid hll; clear hll
      have hw1 : IntKind.i64.wrap ((k : Int) + 1) = (k : Int) + 1 := IntWalk.i64_in _ (by omega)
      have hi1 : 0 ≤ (k : Int) + 1 := by omega
      have hi2 : (k : Int) + 1 < (s.size : Int) := by omega
      by_cases hneg : half s[k] < 0 ∨ half s[k + 1] < 0
      · have Hu : Hid (unhexL s.data.toList = ([], false)) := Lib.hid (unhAt_bad hat (by rw [Hl.out]; exact hlt2) hneg)
        clear hat
        rcases hneg with hneg | hneg
        · go_wp2_with fail
          refine wp_region_any (by kernel_rfl) ?_
          change wpAny _ _ _ _ _ _ _ (World.drew _)
          refine wpAny_take (i := 0) (v := u3) rfl (by kernel_rfl) (by kernel_rfl) (by kernel_rfl) (fun _ _ _ h => h) (Or.inl ⟨by rfl, ?_⟩) ?_
          · (intro w; go_simp)
          refine wpAny_take (i := 1) (v := .string s) rfl (by kernel_rfl) (by kernel_rfl) (by kernel_rfl) (fun _ _ _ h => h) (Or.inl ⟨by rfl, ?_⟩) ?_
          · (intro w; go_simp)
          refine wpAny_take (i := 2) (v := .int .i64 k) rfl (by kernel_rfl) (by kernel_rfl) (by kernel_rfl) (fun _ _ _ h => h) (Or.inl ⟨by rfl, ?_⟩) ?_
          · (intro w; go_simp)
          refine wpAny_take (i := 3) (v := .int .u8 s[k].toNat) rfl (by kernel_rfl) (by kernel_rfl) (by kernel_rfl) (fun _ _ _ h => h) (Or.inl ⟨by rfl, ?_⟩) ?_
          · (intro w; go_simp)
          refine wpAny_take (i := 6) (v := .string s) rfl (by kernel_rfl) (by kernel_rfl) (by kernel_rfl) (fun _ _ _ h => h) (Or.inl ⟨by rfl, ?_⟩) ?_
          · (intro w; go_simp)
          refine wpAny_take (i := 7) (v := .int .i64 k) rfl (by kernel_rfl) (by kernel_rfl) (by kernel_rfl) (fun _ _ _ h => h) (Or.inl ⟨by rfl, ?_⟩) ?_
          · (intro w; go_simp)
          refine wpAny_take (i := 8) (v := .int .i64 ((k : Int) + 1)) rfl (by kernel_rfl) (by kernel_rfl) (by kernel_rfl) (fun _ _ _ h => h) (Or.inl ⟨by rfl, ?_⟩) ?_
          · (intro w; go_simp)
          refine wpAny_take (i := 9) (v := .int .u8 s[k + 1].toNat) rfl (by kernel_rfl) (by kernel_rfl) (by kernel_rfl) (fun _ _ _ h => h) (Or.inl ⟨by rfl, ?_⟩) ?_
          · (intro w; go_simp)
          refine wpAny_ready (rs := [4]) (by kernel_rfl) (by simp) ?_
          refine AllReady.cons rfl (fun K hK => ?_) AllReady.nil
          go_simp
          go_wp2_with (go_at_call 33; refine (digitIn16_no s[k] _ (by assumption)).mono ?_; rintro e w' ⟨⟨t, v, rfl⟩, rfl⟩)
          exact ⟨rfl, .inr ⟨Hu.out, _, _, rfl⟩, hb.drew⟩
        · by_cases hneg1 : half s[k] < 0
          · go_wp2_with fail
            refine wp_region_any (by kernel_rfl) ?_
            change wpAny _ _ _ _ _ _ _ (World.drew _)
            refine wpAny_take (i := 0) (v := u3) rfl (by kernel_rfl) (by kernel_rfl) (by kernel_rfl) (fun _ _ _ h => h) (Or.inl ⟨by rfl, ?_⟩) ?_
            · (intro w; go_simp)
            refine wpAny_take (i := 1) (v := .string s) rfl (by kernel_rfl) (by kernel_rfl) (by kernel_rfl) (fun _ _ _ h => h) (Or.inl ⟨by rfl, ?_⟩) ?_
            · (intro w; go_simp)
            refine wpAny_take (i := 2) (v := .int .i64 k) rfl (by kernel_rfl) (by kernel_rfl) (by kernel_rfl) (fun _ _ _ h => h) (Or.inl ⟨by rfl, ?_⟩) ?_
            · (intro w; go_simp)
            refine wpAny_take (i := 3) (v := .int .u8 s[k].toNat) rfl (by kernel_rfl) (by kernel_rfl) (by kernel_rfl) (fun _ _ _ h => h) (Or.inl ⟨by rfl, ?_⟩) ?_
            · (intro w; go_simp)
            refine wpAny_take (i := 6) (v := .string s) rfl (by kernel_rfl) (by kernel_rfl) (by kernel_rfl) (fun _ _ _ h => h) (Or.inl ⟨by rfl, ?_⟩) ?_
            · (intro w; go_simp)
            refine wpAny_take (i := 7) (v := .int .i64 k) rfl (by kernel_rfl) (by kernel_rfl) (by kernel_rfl) (fun _ _ _ h => h) (Or.inl ⟨by rfl, ?_⟩) ?_
            · (intro w; go_simp)
            refine wpAny_take (i := 8) (v := .int .i64 ((k : Int) + 1)) rfl (by kernel_rfl) (by kernel_rfl) (by kernel_rfl) (fun _ _ _ h => h) (Or.inl ⟨by rfl, ?_⟩) ?_
            · (intro w; go_simp)
            refine wpAny_take (i := 9) (v := .int .u8 s[k + 1].toNat) rfl (by kernel_rfl) (by kernel_rfl) (by kernel_rfl) (fun _ _ _ h => h) (Or.inl ⟨by rfl, ?_⟩) ?_
            · (intro w; go_simp)
            refine wpAny_ready (rs := [4]) (by kernel_rfl) (by simp) ?_
            refine AllReady.cons rfl (fun K hK => ?_) AllReady.nil
            go_simp
            go_wp2_with (go_at_call 33; refine (digitIn16_no s[k] _ (by assumption)).mono ?_; rintro e w' ⟨⟨t, v, rfl⟩, rfl⟩)
            exact ⟨rfl, .inr ⟨Hu.out, _, _, rfl⟩, hb.drew⟩
          · have hneg2 : 0 ≤ half s[k] := by omega
            have hw2 : IntKind.u64.wrap (half s[k] * 16) = half s[k] * 16 := IntWalk.u64_in _ (by omega)
            clear hneg1
            go_wp2_with fail
            refine wp_region_any (by kernel_rfl) ?_
            change wpAny _ _ _ _ _ _ _ (World.drew _)
            refine wpAny_take (i := 0) (v := u3) rfl (by kernel_rfl) (by kernel_rfl) (by kernel_rfl) (fun _ _ _ h => h) (Or.inl ⟨by rfl, ?_⟩) ?_
            · (intro w; go_simp)
            refine wpAny_take (i := 1) (v := .string s) rfl (by kernel_rfl) (by kernel_rfl) (by kernel_rfl) (fun _ _ _ h => h) (Or.inl ⟨by rfl, ?_⟩) ?_
            · (intro w; go_simp)
            refine wpAny_take (i := 2) (v := .int .i64 k) rfl (by kernel_rfl) (by kernel_rfl) (by kernel_rfl) (fun _ _ _ h => h) (Or.inl ⟨by rfl, ?_⟩) ?_
            · (intro w; go_simp)
            refine wpAny_take (i := 3) (v := .int .u8 s[k].toNat) rfl (by kernel_rfl) (by kernel_rfl) (by kernel_rfl) (fun _ _ _ h => h) (Or.inl ⟨by rfl, ?_⟩) ?_
            · (intro w; go_simp)
            refine wpAny_take (i := 6) (v := .string s) rfl (by kernel_rfl) (by kernel_rfl) (by kernel_rfl) (fun _ _ _ h => h) (Or.inl ⟨by rfl, ?_⟩) ?_
            · (intro w; go_simp)
            refine wpAny_take (i := 7) (v := .int .i64 k) rfl (by kernel_rfl) (by kernel_rfl) (by kernel_rfl) (fun _ _ _ h => h) (Or.inl ⟨by rfl, ?_⟩) ?_
            · (intro w; go_simp)
            refine wpAny_take (i := 8) (v := .int .i64 ((k : Int) + 1)) rfl (by kernel_rfl) (by kernel_rfl) (by kernel_rfl) (fun _ _ _ h => h) (Or.inl ⟨by rfl, ?_⟩) ?_
            · (intro w; go_simp)
            refine wpAny_take (i := 9) (v := .int .u8 s[k + 1].toNat) rfl (by kernel_rfl) (by kernel_rfl) (by kernel_rfl) (fun _ _ _ h => h) (Or.inl ⟨by rfl, ?_⟩) ?_
            · (intro w; go_simp)
            refine wpAny_ready (rs := [4]) (by kernel_rfl) (by simp) ?_
            refine AllReady.cons rfl (fun K hK => ?_) AllReady.nil
            go_simp
            go_wp2_with (go_at_call 33; refine (digitIn16_yes s[k] _ (by assumption)).mono ?_; rintro e w' ⟨rfl, rfl⟩)
            try (refine hK _ _ ?_; clear hK K)
            refine wpAny_take (i := 5) (v := .int .u64 (half s[k] * 16)) rfl (by kernel_rfl) (by kernel_rfl) (by kernel_rfl) (fun _ _ _ h => h) (Or.inl ⟨by rfl, ?_⟩) ?_
            · (intro w; go_simp)
            refine wpAny_ready (rs := [10]) (by kernel_rfl) (by simp) ?_
            refine AllReady.cons rfl (fun K hK => ?_) AllReady.nil
            go_simp
            go_wp2_with (go_at_call 33; refine (digitIn16_no s[k + 1] _ (by assumption)).mono ?_; rintro e w' ⟨⟨t, v, rfl⟩, rfl⟩)
            exact ⟨rfl, .inr ⟨Hu.out, _, _, rfl⟩, hb.drew⟩
      · have Hs := Lib.hid (unhAt_step hat (by rw [Hl.out]; exact hlt2) hneg)
        clear hat
        have hp1 : 0 ≤ half s[k] := by omega
        have hp2 : 0 ≤ half s[k + 1] := by omega
        clear hneg
        have hbv : [Value.int .u8 (16 * half s[k] + half s[k + 1])] = [UInt8.ofNat (16 * half s[k] + half s[k + 1]).toNat].map byteV := by rw [List.map_cons, byteV_of _ (by omega) (by omega)]; rfl
        have Hbv := Lib.hid hbv; clear hbv
        have hsz := hb.size
        have hw2 : IntKind.u64.wrap (half s[k] * 16) = half s[k] * 16 := IntWalk.u64_in _ (by omega)
        have hor := or16 (half s[k]) (half s[k + 1]) hp1 h1b hp2 h2b
        have hw3 : IntKind.u8.wrap (16 * half s[k] + half s[k + 1]) = 16 * half s[k] + half s[k + 1] := IntWalk.u8_in _ (by omega)
        go_wp2_with fail
        go_region_law (first | (refine step_appB (by rfl) _ _ 22 (by rfl) w.heap.size 5 i0 Try.underlying22 hi hz0 hz1 hz2 u3 o (by rfl) (hown.alloc _) wr.heap.size _ (0, 0) (heap_alloc_new _ _) 1 1 (by rfl) _ Hbv.out (by rfl) (by omega) (by omega) (by simp; omega) ?_; intro v' w1 hown1 hb1) | (go_simp; go_at_call 33; refine (digitIn16_yes _ _ (by assumption)).mono ?_; rintro e w' ⟨rfl, rfl⟩))
        all_goals
          clear hown hor hw3
          go_wp2_with fail
          go_roundw
          case rel =>
            have hk2 : Hid ((k + 2) % 2 = 0) := Lib.hid (by have := Hk.out; omega)
            have hol2 : (o ++ [UInt8.ofNat (16 * half s[k] + half s[k + 1]).toNat]).length ≤ k + 2 := by rw [List.length_append, List.length_singleton]; omega
            exact ⟨k + 2, _, by omega, by go_num, hown1, ((hb.alloc hb.size _).drew).trans hb1, hol2, Hs.out, hk2⟩
          case measure => simp [intOf]; omega
    · have hcv1 := run_convB (P := Try.prog) (w := wr) (B := w.heap.size) (v := u3) (l := o) 22 9 Try.underlying22 Try.underlying5 Try.underlying9 hown
      have Hu : Hid (unhexL s.data.toList = (o, true)) := Lib.hid (unhAt_done hat (by simp; omega))
      go_wp2_with fail
      go_ret
      exact ⟨.inl ⟨by rw [Hu.out], by rw [Hu.out]; rfl⟩, hb⟩
theorem bytesOfHex_any (s : ByteArray) (w : World) (hs : s.size ≤ 140737488355327) :
    Calls Try.prog 23 #[.string s] w fun e w' => UnPost s.data.toList e ∧ Below w.heap.size w w' := by
  by_cases h : s.size % 2 = 1
  · have hu : unhexL s.data.toList = ([], false) := by unfold unhexL; rw [unhexP_odd _ (by simpa using h)]
    refine (bytesOfHex_odd s w (by omega) (by rw [beq_eq_false_iff_ne]; omega)).mono fun e w' ⟨he, hw⟩ => ⟨.inr ⟨hu, he⟩, ?_⟩
    subst hw
    exact Below.refl _ _
  · exact bytesOfHex_even s w hs (by rw [beq_iff_eq]; omega)

end Go.Proofs.Ytofeefkhelibpaa.Num
