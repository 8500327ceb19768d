/-
  The walks of the reference's cursor over a draw (l1New, l1Byte, l1Below): whatever the code's bytes, a draw gives some number in its range; only the cursor's own block is written.
-/
import Derived.Test.YtpkofbdfnbpfpaaGreatBytes
import Derived.Test.YtpkofbdfnbpfpaaGreatProg
import Derived.Outline
import Derived.WalkLawsBesides
import Derived.WalkSpells
import Derived.Deep.QuietTactic
import Derived.BigQuiet
import Derived.LoopTactic
import Derived.Deep.DeepFit
import Derived.Laws.BitsAllLaws
import Derived.OpenShut
namespace Go.Proofs.YtpkofbdfnbpfpaaGreat.Num
open Go.RowKit Go.Proofs

theorem and_mask (x : Int) (m : Nat) (hm : m < 9223372036854775808) : 0 ≤ bits .and .i64 x m ∧ bits .and .i64 x m ≤ m := by
  have h1 : (BitVec.ofInt 64 x &&& BitVec.ofInt 64 (m : Int)).toNat ≤ m := by
    rw [BitVec.toNat_and]
    refine Nat.le_trans Nat.and_le_right ?_
    rw [BitVec.ofInt_natCast, BitVec.toNat_ofNat]
    exact Nat.mod_le _ _
  have key : ∀ n : Nat, n ≤ m → 0 ≤ IntKind.i64.wrap (n : Int) ∧ IntKind.i64.wrap (n : Int) ≤ m := fun n hn => by rw [IntKind.wrap_i64]; omega
  exact key _ h1

/-- From w to w' at most block g was written, and new blocks were made. -/
def Only (g : Nat) (w w' : World) : Prop := w.grownBy w' (some g)
theorem Only.refl (g : Nat) (w : World) : Only g w w := ⟨rfl, rfl, rfl, Nat.le_refl _, fun _ _ _ => rfl⟩
theorem Only.trans {g : Nat} {a b c : World} (h : Only g a b) (k : Only g b c) : Only g a c :=
  ⟨k.os.trans h.os, k.tape.trans h.tape, k.output.trans h.output, Nat.le_trans h.size k.size, fun i hi hn => (k.block i (Nat.lt_of_lt_of_le hi h.size) hn).trans (h.block i hi hn)⟩
theorem Only.drew {g : Nat} {a w : World} (h : Only g a w) : Only g a w.drew := ⟨h.os, h.tape, h.output, h.size, h.block⟩
theorem Only.drewN {g : Nat} {a w : World} (h : Only g a w) (n : Nat) : Only g a (w.drewN n) := ⟨h.os, h.tape, h.output, h.size, h.block⟩
theorem Only.alloc {g : Nat} {a w : World} (h : Only g a w) (o : Obj) : Only g a (w.alloc o) := h.trans (World.grownBy_alloc w o (some g))
theorem Only.setCell {g : Nat} {a w : World} (h : Only g a w) (o : Nat) (v : Value) : Only g a (w.setCell ⟨g, o, none⟩ v) :=
  h.trans ⟨rfl, rfl, rfl, by simp [World.setCell], fun k _ hn => Below.heap_setCell _ _ _ _ (by intro e; apply hn; rw [e])⟩
theorem Only.below {g B : Nat} {w w' : World} (h : Only g w w') (hg : B ≤ g) (hB : B ≤ w.heap.size) : Below B w w' :=
  ⟨h.os, h.tape, h.output, h.size, fun k hk => h.block k (by omega) (by intro e; have := Option.some.inj e; omega)⟩
theorem below_drewN {B : Nat} {a w : World} (h : Below B a w) (n : Nat) : Below B a (w.drewN n) := ⟨h.os, h.tape, h.output, h.size, h.block⟩
theorem OwnB.only {w w' : World} {B g : Nat} {E : TypeId} {v : Value} {l : List UInt8} (h : OwnB w B E v l) (hg : Only g w w') (hne : ∀ k, v.ownBlock = some k → k ≠ g) : OwnB w' B E v l := by
  refine World.ownsRow.kept h hg ?_
  cases hv : v.ownBlock with
  | none => exact .inl rfl
  | some k => right; intro e; exact hne k hv (Option.some.inj e)

/-- The bytes of the code that came in, below block B: they can be read. -/
def CodeAt (w : World) (B : Nat) (a : Option Addr) (len : Nat) : Prop :=
  len ≤ 1048576 ∧ (len = 0 ∨ ∃ b off, a = some ⟨b, off, none⟩ ∧ b < B ∧ ∀ j, j < len → ∃ n : Nat, n < 256 ∧ w.cell? ⟨b, off + j, none⟩ = some (.int .u8 n))
theorem CodeAt.below {w w' : World} {B : Nat} {a : Option Addr} {len : Nat} (h : CodeAt w B a len) (hb : Below B w w') : CodeAt w' B a len := by
  refine ⟨h.1, ?_⟩
  rcases h.2 with h | ⟨b, off, ha, hlt, hc⟩
  · exact .inl h
  · exact .inr ⟨b, off, ha, hlt, fun j hj => by obtain ⟨n, hn, hx⟩ := hc j hj; exact ⟨n, hn, (hb.cell (p := ⟨b, off + j, none⟩) hlt).trans hx⟩⟩
/-- The cursor in block g, at place i, its number st. -/
def CurI (w : World) (B g : Nat) (a : Option Addr) (len cap i : Nat) (st : Int) : Prop :=
  B ≤ g ∧ CodeAt w B a len ∧ i ≤ len ∧ w.cell? ⟨g, 0, none⟩ = some (.slice a len cap) ∧ w.cell? ⟨g, 1, none⟩ = some (.int .i64 i) ∧ w.cell? ⟨g, 2, none⟩ = some (.int .i64 st) ∧
    w.frozen? ⟨g, 1, none⟩ = false ∧ w.frozen? ⟨g, 2, none⟩ = false
/-- The cursor in block g. -/
def Cur (w : World) (B g : Nat) (a : Option Addr) (len cap : Nat) : Prop := ∃ (i : Nat) (st : Int), CurI w B g a len cap i st
section
variable {w : World} {B g : Nat} {a : Option Addr} {len cap i : Nat} {st : Int}
theorem CurI.drewN (h : CurI w B g a len cap i st) (n : Nat) : CurI (w.drewN n) B g a len cap i st := h
theorem Cur.drew (h : Cur w B g a len cap) : Cur w.drew B g a len cap := h
theorem Cur.drewN (h : Cur w B g a len cap) (n : Nat) : Cur (w.drewN n) B g a len cap := h
theorem below_set (hg : B ≤ g) (o : Nat) (v : Value) : Below B w (w.setCell ⟨g, o, none⟩ v) := (Below.refl _ _).setCell hg _
theorem CurI.setH (h : CurI w B g a len cap i st) (x : Int) : CurI (w.setCell ⟨g, 2, none⟩ (.int .i64 x)) B g a len cap i x := by
  obtain ⟨h1, h2, h3, h4, h5, h6, h7, h8⟩ := h
  refine ⟨h1, h2.below (below_set h1 _ _), h3, ?_, ?_, ?_, ?_, ?_⟩
  · rw [World.cell?_setCell_other _ _ _ _ (by simp)]; exact h4
  · rw [World.cell?_setCell_other _ _ _ _ (by simp)]; exact h5
  · exact World.cell?_setCell_same _ _ _ (by rw [h6])
  · rw [World.frozen?_setCell]; exact h7
  · rw [World.frozen?_setCell]; exact h8
theorem CurI.setI (h : CurI w B g a len cap i st) (j : Nat) (hj : j ≤ len) : CurI (w.setCell ⟨g, 1, none⟩ (.int .i64 j)) B g a len cap j st := by
  obtain ⟨h1, h2, h3, h4, h5, h6, h7, h8⟩ := h
  refine ⟨h1, h2.below (below_set h1 _ _), hj, ?_, ?_, ?_, ?_, ?_⟩
  · rw [World.cell?_setCell_other _ _ _ _ (by simp)]; exact h4
  · exact World.cell?_setCell_same _ _ _ (by rw [h5])
  · rw [World.cell?_setCell_other _ _ _ _ (by simp)]; exact h6
  · rw [World.frozen?_setCell]; exact h7
  · rw [World.frozen?_setCell]; exact h8
/-- New memory, and writes elsewhere, leave the cursor as it is. -/
theorem Cur.other {w' : World} {C : Nat} (h : Cur w B g a len cap) (hb : Below C w w') (hg : g < C) (hB : B ≤ C) : Cur w' B g a len cap := by
  obtain ⟨i, st, h1, h2, h3, h4, h5, h6, h7, h8⟩ := h
  exact ⟨i, st, h1, h2.below (hb.mono hB), h3, (hb.cell (p := ⟨g, 0, none⟩) hg).trans h4, (hb.cell (p := ⟨g, 1, none⟩) hg).trans h5, (hb.cell (p := ⟨g, 2, none⟩) hg).trans h6, (hb.frozen (p := ⟨g, 1, none⟩) hg).trans h7, (hb.frozen (p := ⟨g, 2, none⟩) hg).trans h8⟩
end
theorem and255 (x : Int) : 0 ≤ bits .and .i64 x 255 ∧ bits .and .i64 x 255 ≤ 255 := by
  have := and_mask x 255 (by omega)
  simpa using this
/-- What a drawing of one byte leaves. -/
def ByteP (B g : Nat) (a : Option Addr) (len cap : Nat) (w : World) (e : Ending) (w' : World) : Prop := ∃ n : Int, 0 ≤ n ∧ n ≤ 255 ∧ e = .returned (.int .i64 n) ∧ Cur w' B g a len cap ∧ Only g w w'

set_option maxHeartbeats 800000 in
theorem l1Byte_end (B g : Nat) (a : Option Addr) (len cap i : Nat) (st : Int) (w : World) (h : CurI w B g a len cap i st) (hi : len ≤ i) :
    Calls Tryz.prog 88 #[.pointer (some ⟨g, 0, none⟩)] w (ByteP B g a len cap w) := by
  have HI := Lib.hid h
  obtain ⟨hB, hC, hil, h0, h1, h2, f1, f2⟩ := h
  have hlen : len ≤ 1048576 := hC.1
  clear hC
  have hm := and255 (bits BinOp.xor IntKind.i64 (wrap64 (wrap64 (st * 6364136223846793005) + 1442695040888963407) / 8589934592) (wrap64 (wrap64 (st * 6364136223846793005) + 1442695040888963407) / 35184372088832))
  obtain ⟨hm0, hm1⟩ := hm
  go_enter Tryz.func88, Tryz.ntmps88
  go_wp2_with fail
  go_quiet (fail)
  go_wp2_with fail
  go_quiet (fail)
  go_wp2_with fail
  go_ret
  exact ⟨_, hm0, hm1, rfl, ⟨_, _, ((HI.out.setH _).drewN _).drewN _⟩, (((Only.refl _ _).setCell _ _).drewN _).drewN _⟩
set_option maxHeartbeats 800000 in
theorem l1Byte_in (B g : Nat) (b off : Nat) (len cap i : Nat) (st : Int) (z : Nat) (w : World) (h : CurI w B g (some ⟨b, off, none⟩) len cap i st) (hb : b < B) (hi : i < len) (hz : z < 256) (hcz : w.cell? ⟨b, off + i, none⟩ = some (.int .u8 z)) :
    Calls Tryz.prog 88 #[.pointer (some ⟨g, 0, none⟩)] w (ByteP B g (some ⟨b, off, none⟩) len cap w) := by
  have HI := Lib.hid h
  obtain ⟨hB, hC, hil, h0, h1, h2, f1, f2⟩ := h
  have hlen : len ≤ 1048576 := hC.1
  clear hC
  have hne : b ≠ g := by omega
  have hm := and255 (bits BinOp.xor IntKind.i64 (wrap64 (wrap64 (st * 6364136223846793005) + 1442695040888963407) / 8589934592) (wrap64 (wrap64 (st * 6364136223846793005) + 1442695040888963407) / 35184372088832))
  obtain ⟨hm0, hm1⟩ := hm
  go_enter Tryz.func88, Tryz.ntmps88
  go_wp2_with fail
  go_quiet (fail)
  go_wp2_with fail
  go_quiet (fail)
  go_wp2_with fail
  go_quiet (fail)
  go_wp2_with fail
  go_ret
  exact ⟨_, (and255 _).1, (and255 _).2, rfl, ⟨_, _, ((HI.out.setH _).drewN _).setI (i + 1) (by omega)⟩, (((Only.refl _ _).setCell _ _).drewN _).setCell _ _⟩
theorem l1Byte_any (B g : Nat) (a : Option Addr) (len cap : Nat) (w : World) (h : Cur w B g a len cap) :
    Calls Tryz.prog 88 #[.pointer (some ⟨g, 0, none⟩)] w (ByteP B g a len cap w) := by
  obtain ⟨i, st, h⟩ := h
  by_cases hi : len ≤ i
  · exact l1Byte_end B g a len cap i st w h hi
  · rcases h.2.1.2 with h0 | ⟨b, off, rfl, hb, hc⟩
    · omega
    · obtain ⟨z, hz, hcz⟩ := hc i (by omega)
      exact l1Byte_in B g b off len cap i st z w h hb (by omega) hz hcz

/-- What a drawing below n leaves. -/
def BelowP (B g : Nat) (a : Option Addr) (len cap : Nat) (n : Int) (w : World) (e : Ending) (w' : World) : Prop := ∃ r : Int, 0 ≤ r ∧ (0 < n → r < n) ∧ e = .returned (.int .i64 r) ∧ Cur w' B g a len cap ∧ Only g w w'
set_option maxHeartbeats 400000 in
theorem l1Below_any (B g : Nat) (a : Option Addr) (len cap : Nat) (n : Int) (w : World) (h : Cur w B g a len cap) (hn : n ≤ 9223372036854775807) :
    Calls Tryz.prog 56 #[.pointer (some ⟨g, 0, none⟩), .int .i64 n] w (BelowP B g a len cap n w) := by
  have H := Lib.hid h; clear h
  by_cases h0 : n ≤ 0
  · go_enter Tryz.func56, Tryz.ntmps56
    go_wp2_with fail
    go_ret
    exact ⟨0, Int.le_refl _, fun h => by omega, rfl, H.out, Only.refl _ _⟩
  · have hn0 : ¬ n = 0 := by omega
    by_cases h1 : n ≤ 256
    · go_enter Tryz.func56, Tryz.ntmps56
      go_wp2_with fail
      refine (l1Byte_any B g a len cap _ H.out).mono ?_
      rintro e w1 ⟨x, x0, x1, rfl, hc, ho⟩
      have Hc := Lib.hid hc; clear hc
      have Ho := Lib.hid ho; clear ho
      go_wp2_with fail
      go_ret
      exact ⟨x % n, Int.emod_nonneg _ hn0, fun h => Int.emod_lt_of_pos _ h, rfl, Hc.out, Ho.out⟩
    · go_enter Tryz.func56, Tryz.ntmps56
      go_wp2_with fail
      refine (l1Byte_any B g a len cap _ H.out).mono ?_
      rintro e w1 ⟨x, x0, x1, rfl, hc1, ho1⟩
      have Hc1 := Lib.hid hc1; clear hc1
      have Ho1 := Lib.hid ho1; clear ho1
      go_wp2_with fail
      refine (l1Byte_any B g a len cap _ Hc1.out).mono ?_
      rintro e w2 ⟨y, y0, y1, rfl, hc2, ho2⟩
      have Hc2 := Lib.hid hc2; clear hc2
      have Ho2 := Lib.hid ho2; clear ho2
      go_wp2_with fail
      refine (l1Byte_any B g a len cap _ Hc2.out).mono ?_
      rintro e w3 ⟨z, z0, z1, rfl, hc3, ho3⟩
      have Hc3 := Lib.hid hc3; clear hc3
      have Ho3 := Lib.hid ho3; clear ho3
      go_wp2_with fail
      refine (l1Byte_any B g a len cap _ Hc3.out).mono ?_
      rintro e w4 ⟨u, u0, u1, rfl, hc4, ho4⟩
      have Hc4 := Lib.hid hc4; clear hc4
      have Ho4 := Lib.hid ho4; clear ho4
      go_wp2_with fail
      go_ret
      exact ⟨(x * 16777216 + y * 65536 + z * 256 + u) % n, Int.emod_nonneg _ hn0, fun h => Int.emod_lt_of_pos _ h, rfl, Hc4.out, ((Ho1.out.trans Ho2.out).trans Ho3.out).trans Ho4.out⟩

/-- What a new cursor is. -/
def NewP (B : Nat) (a : Option Addr) (len cap : Nat) (w : World) (e : Ending) (w' : World) : Prop := ∃ g : Nat, e = .returned (.pointer (some ⟨g, 0, none⟩)) ∧ Cur w' B g a len cap ∧ Below w.heap.size w w' ∧ w.heap.size ≤ g ∧ g < w'.heap.size
theorem newCur {B : Nat} {a : Option Addr} {len cap : Nat} {w : World} {T : TypeId} (h : CodeAt w B a len) (hB : B ≤ w.heap.size) (st : Int) :
    NewP B a len cap w (.returned (.pointer (some ⟨w.heap.size, 0, none⟩))) (w.alloc (.cells #[.slice a len cap, .int .i64 0, .int .i64 st] T)) := by
  have hb : Below w.heap.size w (w.alloc (.cells #[.slice a len cap, .int .i64 0, .int .i64 st] T)) := (Below.refl _ _).alloc (Nat.le_refl _) _
  refine ⟨w.heap.size, rfl, ⟨0, st, hB, h.below (hb.mono hB), Nat.zero_le _, ?_, ?_, ?_, ?_, ?_⟩, hb, Nat.le_refl _, by simp⟩
  · rw [World.cell?_alloc_mark]; rfl
  · rw [World.cell?_alloc_mark]; rfl
  · rw [World.cell?_alloc_mark]; rfl
  · exact World.frozen?_alloc_at _ _ _ _ rfl
  · exact World.frozen?_alloc_at _ _ _ _ rfl
set_option maxHeartbeats 400000 in
set_option maxRecDepth 20000 in
theorem l1New_any (B : Nat) (a : Option Addr) (len cap : Nat) (w : World) (hB : B ≤ w.heap.size) (h : CodeAt w B a len) :
    Calls Tryz.prog 54 #[.slice a len cap] w (NewP B a len cap w) := by
  have hlen := h.1
  have H := Lib.hid h; clear h
  go_enter Tryz.func54, Tryz.ntmps54
  go_wp2_with fail
  go_loop [3, 4] (fun x i => ∃ (k : Nat) (st : Int), k ≤ len ∧ i = .int .i64 k ∧ x = .int .i64 st) (fun _ i => len - (intOf i).toNat)
  case atStart => exact ⟨0, _, Nat.zero_le _, rfl, rfl⟩
  case round =>
    obtain ⟨k, st, hk, rfl, rfl⟩ := hrel
    by_cases hlt : k < len ∧ k < 4000
    · obtain ⟨hlt, hlt2⟩ := hlt
      rcases H.out.2 with h0 | ⟨b, off, rfl, hb, hc⟩
      · omega
      · obtain ⟨z, hz, hcz⟩ := hc k hlt
        clear hc
        have hlt5 : (k : Int) < 4000 := by omega
        clear hlt2
        go_wp2_with fail
        go_round
        case rel => exact ⟨k + 1, _, by omega, by go_num, rfl⟩
        case measure => simp [intOf]; omega
    · by_cases hlt3 : k < len
      · have hlt4 : (4000 : Int) ≤ (k : Int) := by omega
        clear hlt
        go_wp2_with fail
        go_ret
        exact newCur H.out hB _
      · clear hlt
        go_wp2_with fail
        go_ret
        exact newCur H.out hB _

/-- From w to w' nothing has turned below block C, but for block g. -/
structure Off (C g : Nat) (w w' : World) : Prop where
  os : w'.os = w.os
  tape : w'.tape = w.tape
  output : w'.output = w.output
  size : w.heap.size ≤ w'.heap.size
  block : ∀ k, k < C → k ≠ g → w'.heap[k]? = w.heap[k]?
theorem Off.refl (C g : Nat) (w : World) : Off C g w w := ⟨rfl, rfl, rfl, Nat.le_refl _, fun _ _ _ => rfl⟩
theorem Off.trans {C g : Nat} {a b c : World} (h : Off C g a b) (k : Off C g b c) : Off C g a c :=
  ⟨k.os.trans h.os, k.tape.trans h.tape, k.output.trans h.output, Nat.le_trans h.size k.size, fun i hi hn => (k.block i hi hn).trans (h.block i hi hn)⟩
theorem Off.mono {C D g : Nat} {a b : World} (h : Off C g a b) (hD : D ≤ C) : Off D g a b := ⟨h.os, h.tape, h.output, h.size, fun k hk hn => h.block k (by omega) hn⟩
theorem Below.off {C g : Nat} {a b : World} (h : Below C a b) : Off C g a b := ⟨h.os, h.tape, h.output, h.size, fun k hk _ => h.block k hk⟩
theorem Only.off {C g : Nat} {a b : World} (h : Only g a b) (hC : C ≤ a.heap.size) : Off C g a b := ⟨h.os, h.tape, h.output, h.size, fun k hk hn => h.block k (by omega) (by intro e; exact hn (Option.some.inj e))⟩
theorem Off.below {C B g : Nat} {a b : World} (h : Off C g a b) (hg : B ≤ g) (hB : B ≤ C) : Below B a b := ⟨h.os, h.tape, h.output, h.size, fun k hk => h.block k (by omega) (by omega)⟩
/-- A []byte of the call's own stays as it is while another block is written. -/
theorem OwnB.off {w w' : World} {B C g : Nat} {E : TypeId} {v : Value} {l : List UInt8} (h : OwnB w B E v l) (hg : Off C g w w') (hC : ∀ k, v.ownBlock = some k → k < C) (hB : g < B) : OwnB w' B E v l := by
  obtain ⟨h1, h2⟩ := h
  refine ⟨h1, ?_⟩
  rcases h2 with h2 | ⟨k, cap, cur, rfl, hb, hk, hr⟩
  · exact .inl h2
  · exact .inr ⟨k, cap, cur, rfl, hb, by rw [hg.block k (hC k rfl) (by omega)]; exact hk, hr⟩
theorem CodeAt.grow {w w' : World} {B B' : Nat} {a : Option Addr} {len : Nat} (h : CodeAt w B a len) (hb : Below B w w') (hB : B ≤ B') : CodeAt w' B' a len := by
  obtain ⟨h1, h2⟩ := h.below hb
  refine ⟨h1, ?_⟩
  rcases h2 with h2 | ⟨b, off, ha, hlt, hc⟩
  · exact .inl h2
  · exact .inr ⟨b, off, ha, by omega, hc⟩
/-- A code that came in as a row of integers can be read. -/
theorem codeOf {w : World} {a : Option Addr} {len cap : Nat} {z : List Int} (h : (a = none ∧ len = 0 ∧ cap = 0 ∧ z = []) ∨
    ∃ x, a = some x ∧ len ≤ cap ∧ cap ≤ maxLen ∧ z.length = cap ∧ (∀ i, i < z.length → w.cell? (x.add i) = some (.int .u8 (z.getD i 0))) ∧ ∀ n ∈ z, (Lit.int .u8 n).wf = true) (hl : len ≤ 1048576) : CodeAt w w.heap.size a len := by
  refine ⟨hl, ?_⟩
  rcases h with ⟨rfl, rfl, _⟩ | ⟨x, rfl, hlc, _, hz, hc, hw⟩
  · exact .inl rfl
  · by_cases h0 : len = 0
    · exact .inl h0
    · obtain ⟨b, off, sp⟩ := x
      have h1 := hc 0 (by omega)
      have hsp : sp = none := by
        cases sp with
        | none => rfl
        | some q => simp [World.cell?, Addr.add] at h1; split at h1 <;> cases h1
      subst hsp
      have hlt := World.block_lt_of_cell? w _ (by simpa [Addr.add] using h1)
      refine .inr ⟨b, off, rfl, hlt, fun j hj => ?_⟩
      have h2 := hc j (by omega)
      have hm : z.getD j 0 ∈ z := by
        rw [List.getD, List.getElem?_eq_getElem (by omega)]
        exact List.getElem_mem _
      have hwf := hw _ hm
      have hadd : (⟨b, off, none⟩ : Addr).add j = ⟨b, off + j, none⟩ := by unfold Addr.add; split <;> simp_all
      rw [hadd] at h2
      have hb := bounds_u8 hwf
      refine ⟨(z.getD j 0).toNat, by omega, ?_⟩
      rw [h2]
      congr 2
      omega
end Go.Proofs.YtpkofbdfnbpfpaaGreat.Num
