/-
  Several texts in one: ReadA ReadB Emit ReadC.
-/
import Derived.Test.YtpkofbdfnbpfpaaGreatXSpecB
import Derived.Test.YtpkofbdfnbpfpaaGreatXImpA
import Derived.Test.YtpkofbdfnbpfpaaGreatXImpB
import Derived.Laws.EntriesVeiled

/-
  The program's reader of messages: its block, the text's box and the place's box; its closures for the place and for a number.
-/
namespace Go.Proofs.YtpkofbdfnbpfpaaGreat.Num
open Go.RowKit Go.Proofs
set_option linter.unusedVariables false
set_option linter.unusedSimpArgs false

/-- The three closures: the place, a number, some bytes. -/
def plF (bp : Nat) : Value := .func (.func 93) #[] #[.pointer (some ⟨bp, 0, none⟩)]
def nuF (bs bp : Nat) : Value := .func (.func 94) #[] #[.pointer (some ⟨bs, 0, none⟩), .pointer (some ⟨bp, 0, none⟩)]
def byF (bs bp : Nat) : Value := .func (.func 97) #[] #[.pointer (some ⟨bp, 0, none⟩), .pointer (some ⟨bs, 0, none⟩)]
/-- The reader's block g, the text's box bs, the place's box bp; the schema lies below L, what is told lies from B on. -/
structure RI (w : World) (g bs bp L B : Nat) (u : Value) (Rt Mo : Int) (sch : List RM) (D : Int) (s : ByteArray) (o : Value) (p : Nat) (out : List Ev) : Prop where
  box : Box w g [u, .int .i64 Rt, .int .i64 D, .int .i64 Mo, plF bp, nuF bs bp, byF bs bp, o]
  str : Box w bs [.string s]
  pl : Box w bp [.int .i64 p]
  own : OwnE w B 34 o out
  msgs : MsgsAt w (· < L) u sch
  inn : p ≤ s.size
  gB : g < B
  sB : bs < B
  pB : bp < B
  gL : L ≤ g
  sL : L ≤ bs
  pL : L ≤ bp
  gs : g ≠ bs
  gp : g ≠ bp
  sp : bs ≠ bp
  bz : B ≤ w.heap.size
/-- A call that writes only the reader's block, the place's box, the row of what was told, and new memory. -/
structure MovI (g bp : Nat) (o o' : Value) (w w' : World) : Prop where
  os : w'.os = w.os
  tape : w'.tape = w.tape
  output : w'.output = w.output
  size : w.heap.size ≤ w'.heap.size
  block : ∀ k, k < w.heap.size → k ≠ g → k ≠ bp → o.ownBlock ≠ some k → w'.heap[k]? = w.heap[k]?
  own : ∀ k, o'.ownBlock = some k → o.ownBlock = some k ∨ w.heap.size ≤ k
section
variable {g bs bp L B gx p : Nat} {o o' o'' u : Value} {w w' w'' : World} {sch : List RM} {D Rt Mo : Int} {s : ByteArray} {out : List Ev}
theorem MovI.refl (g bp : Nat) (o : Value) (w : World) : MovI g bp o o w w := ⟨rfl, rfl, rfl, Nat.le_refl _, fun _ _ _ _ _ => rfl, fun _ h => .inl h⟩
theorem MovI.trans (h : MovI g bp o o' w w') (k : MovI g bp o' o'' w' w'') : MovI g bp o o'' w w'' :=
  ⟨k.os.trans h.os, k.tape.trans h.tape, k.output.trans h.output, Nat.le_trans h.size k.size,
    fun b hb hg hp ho => (k.block b (Nat.lt_of_lt_of_le hb h.size) hg hp fun e => by rcases h.own b e with h1 | h1; exact ho h1; omega).trans (h.block b hb hg hp ho),
    fun b hb => by rcases k.own b hb with h1 | h1; exact h.own b h1; exact .inr (Nat.le_trans h.size h1)⟩
theorem MovI.of_below (h : Below w.heap.size w w') : MovI g bp o o w w' := ⟨h.os, h.tape, h.output, h.size, fun k hk _ _ _ => h.block k hk, fun _ h => .inl h⟩
theorem MovI.alloc (h : MovI g bp o o' w w') (ob : Obj) : MovI g bp o o' w (w'.alloc ob) := h.trans (.of_below ((Below.refl _ _).alloc (Nat.le_refl _) _))
theorem MovI.drew (h : MovI g bp o o' w w') : MovI g bp o o' w w'.drew := h.trans (.of_below (Below.refl _ _).drew)
theorem MovI.setG (h : MovI g bp o o' w w') (j : Nat) (v : Value) : MovI g bp o o' w (w'.setCell ⟨g, j, none⟩ v) := by
  have hb : Below g w' (w'.setCell ⟨g, j, none⟩ v) := (Below.refl _ _).setCell (Nat.le_refl g) v
  exact ⟨hb.os.trans h.os, hb.tape.trans h.tape, hb.output.trans h.output, Nat.le_trans h.size hb.size,
    fun k hk hn hp ho => (Below.heap_setCell _ _ _ _ (fun e => hn (by rw [e]))).trans (h.block k hk hn hp ho), h.own⟩
theorem MovI.setP (h : MovI g bp o o' w w') (j : Nat) (v : Value) : MovI g bp o o' w (w'.setCell ⟨bp, j, none⟩ v) := by
  have hb : Below bp w' (w'.setCell ⟨bp, j, none⟩ v) := (Below.refl _ _).setCell (Nat.le_refl bp) v
  exact ⟨hb.os.trans h.os, hb.tape.trans h.tape, hb.output.trans h.output, Nat.le_trans h.size hb.size,
    fun k hk hn hp ho => (Below.heap_setCell _ _ _ _ (fun e => hp (by rw [e]))).trans (h.block k hk hn hp ho), h.own⟩
theorem MovI.setX (h : MovI g bp o o' w w') (hx : w.heap.size ≤ gx) (j : Nat) (v : Value) : MovI g bp o o' w (w'.setCell ⟨gx, j, none⟩ v) := by
  have hb : Below gx w' (w'.setCell ⟨gx, j, none⟩ v) := (Below.refl _ _).setCell (Nat.le_refl gx) v
  exact ⟨hb.os.trans h.os, hb.tape.trans h.tape, hb.output.trans h.output, Nat.le_trans h.size hb.size,
    fun k hk hn hp ho => (Below.heap_setCell _ _ _ _ (fun e => by have e2 : k = gx := e; omega)).trans (h.block k hk hn hp ho), h.own⟩
theorem MovI.box {b : Nat} {vs : List Value} (h : MovI g bp o o' w w') (hb : Box w b vs) (hn : b ≠ g) (hp : b ≠ bp) (ho : o.ownBlock ≠ some b) : Box w' b vs :=
  ⟨Nat.lt_of_lt_of_le hb.1 h.size, fun j hj => by
    have he := h.block b hb.1 hn hp ho
    exact ⟨(World.cell?_of_block (a := ⟨b, j, none⟩) he).trans (hb.2 j hj).1, (World.frozen?_of_block (a := ⟨b, j, none⟩) he).trans (hb.2 j hj).2⟩⟩
/-- A block of the call's own, apart from the reader's. -/
structure Loc (g bs bp L gx : Nat) (o : Value) : Prop where
  g : gx ≠ g
  s : gx ≠ bs
  p : gx ≠ bp
  l : L ≤ gx
  o : ∀ k, o.ownBlock = some k → k ≠ gx
theorem RI.lt (h : RI w g bs bp L B u Rt Mo sch D s o p out) : g < w.heap.size ∧ bs < w.heap.size ∧ bp < w.heap.size := ⟨h.box.lt, h.str.lt, h.pl.lt⟩
theorem RI.fresh (h : RI w g bs bp L B u Rt Mo sch D s o p out) (hx : w.heap.size ≤ gx) : Loc g bs bp L gx o := by
  obtain ⟨h1, h2, h3⟩ := h.lt
  have h4 := h.gL
  exact ⟨by omega, by omega, by omega, by omega, fun k hk => by have := (h.own.lt k hk).2; omega⟩
theorem Loc.moved (h : Loc g bs bp L gx o) (hx : gx < w.heap.size) (hm : MovI g bp o o' w w') : Loc g bs bp L gx o' :=
  ⟨h.g, h.s, h.p, h.l, fun k hk => by rcases hm.own k hk with h1 | h1; exact h.o k h1; omega⟩
theorem Loc.apart (h : Loc g bs bp L gx o) : o.ownBlock ≠ some gx := fun e => h.o gx e rfl
theorem MovI.keep {vs : List Value} (h : MovI g bp o o' w w') (hb : Box w gx vs) (hl : Loc g bs bp L gx o) : Box w' gx vs := h.box hb hl.g hl.p hl.apart
theorem RI.below (h : RI w g bs bp L B u Rt Mo sch D s o p out) (hb : Below w.heap.size w w') : RI w' g bs bp L B u Rt Mo sch D s o p out :=
  ⟨h.box.below hb h.box.lt, h.str.below hb h.str.lt, h.pl.below hb h.pl.lt, h.own.below hb (Nat.le_refl _), h.msgs.keep (.of_below hb fun b hb' => Nat.lt_of_lt_of_le hb' (Nat.le_of_lt (Nat.lt_of_le_of_lt h.gL h.box.lt))) fun _ h => h, h.inn, h.gB, h.sB, h.pB, h.gL, h.sL, h.pL, h.gs, h.gp, h.sp, Nat.le_trans h.bz hb.size⟩
theorem RI.alloc (h : RI w g bs bp L B u Rt Mo sch D s o p out) (ob : Obj) : RI (w.alloc ob) g bs bp L B u Rt Mo sch D s o p out := h.below ((Below.refl _ _).alloc (Nat.le_refl _) _)
theorem RI.drew (h : RI w g bs bp L B u Rt Mo sch D s o p out) : RI w.drew g bs bp L B u Rt Mo sch D s o p out := h.below (Below.refl _ _).drew
theorem RI.loc (h : RI w g bs bp L B u Rt Mo sch D s o p out) (hx : Loc g bs bp L gx o) (j : Nat) (v : Value) : RI (w.setCell ⟨gx, j, none⟩ v) g bs bp L B u Rt Mo sch D s o p out :=
  ⟨h.box.other (fun e => hx.g e) _, h.str.other (fun e => hx.s e) _, h.pl.other (fun e => hx.p e) _, h.own.apart (p := ⟨gx, j, none⟩) hx.o _, h.msgs.keep (.of_set (p := ⟨gx, j, none⟩) _ (Nat.not_lt.mpr hx.l)) fun _ h => h, h.inn, h.gB, h.sB, h.pB, h.gL, h.sL, h.pL, h.gs, h.gp, h.sp, by have := h.bz; simpa [World.setCell] using this⟩
theorem RI.to (h : RI w g bs bp L B u Rt Mo sch D s o p out) (q : Nat) (hq : q ≤ s.size) : RI (w.setCell ⟨bp, 0, none⟩ (.int .i64 q)) g bs bp L B u Rt Mo sch D s o q out :=
  ⟨h.box.other (fun e => h.gp e.symm) _, h.str.other (fun e => h.sp e.symm) _, by have := h.pl.set 0 (.int .i64 q); exact this, h.own.other (p := ⟨bp, 0, none⟩) h.pB _, h.msgs.keep (.of_set (p := ⟨bp, 0, none⟩) _ (Nat.not_lt.mpr h.pL)) fun _ h => h, hq, h.gB, h.sB, h.pB, h.gL, h.sL, h.pL, h.gs, h.gp, h.sp, by have := h.bz; simpa [World.setCell] using this⟩
theorem RI.cells (h : RI w g bs bp L B u Rt Mo sch D s o p out) :
    (w.cell? ⟨g, 0, none⟩ = some u ∧ w.cell? ⟨g, 2, none⟩ = some (.int .i64 D) ∧ w.cell? ⟨g, 4, none⟩ = some (plF bp) ∧ w.cell? ⟨g, 5, none⟩ = some (nuF bs bp) ∧ w.cell? ⟨g, 6, none⟩ = some (byF bs bp) ∧ w.cell? ⟨g, 7, none⟩ = some o) ∧
      w.frozen? ⟨g, 7, none⟩ = false ∧ w.cell? ⟨bs, 0, none⟩ = some (.string s) ∧ w.cell? ⟨bp, 0, none⟩ = some (.int .i64 p) ∧ w.frozen? ⟨bp, 0, none⟩ = false :=
  ⟨⟨(h.box.2 0 (by simp)).1, (h.box.2 2 (by simp)).1, (h.box.2 4 (by simp)).1, (h.box.2 5 (by simp)).1, (h.box.2 6 (by simp)).1, (h.box.2 7 (by simp)).1⟩, (h.box.2 7 (by simp)).2, (h.str.2 0 (by simp)).1, (h.pl.2 0 (by simp)).1, (h.pl.2 0 (by simp)).2⟩
end
theorem place_any {w : World} {g bs bp L B p : Nat} {u o : Value} {sch : List RM} {D Rt Mo : Int} {s : ByteArray} {out : List Ev} (h : RI w g bs bp L B u Rt Mo sch D s o p out) :
    Calls Tryz.prog 93 #[.pointer (some ⟨bp, 0, none⟩)] w fun e w' => e = .returned (.int .i64 p) ∧ w = w' := by
  obtain ⟨_, _, _, c, _⟩ := h.cells
  have hl := h.lt.2.2
  clear h
  go_enter Tryz.func93, Tryz.ntmps93
  go_wp2_with fail
  go_ret
  exact ⟨rfl, rfl⟩
theorem failure_any (c a : Int) (w : World) : Calls Tryz.prog 96 #[.int .i64 c, .int .i64 a] w fun e w' => e = .returned (evV (failE c a)) ∧ Below w.heap.size w w' := by
  unfold evV failE
  simp only
  have hbx := Box.fresh w #[.int .i64 0, .int .i64 0, .int .u64 0, .int .i64 0, .string ⟨#[]⟩, .int .i64 0, .int .i64 0] 34
  have hl0 : Below w.heap.size w (w.alloc (.cells #[.int .i64 0, .int .i64 0, .int .u64 0, .int .i64 0, .string ⟨#[]⟩, .int .i64 0, .int .i64 0] 34)) := (Below.refl _ _).alloc (Nat.le_refl _) _
  go_enter Tryz.func96, Tryz.ntmps96
  go_wp2_with fail
  refine (failKind_any c a _).mono ?_
  rintro e w1 ⟨rfl, hb1⟩
  have hx := hbx.below hb1 hbx.lt
  have Hl := Lib.hid (hl0.trans (hb1.mono hl0.size))
  obtain ⟨⟨r0, r1, r2, r3, r4, r5, r6⟩, s0, s1, s2, s3, s4, s5, s6⟩ := hx.sevenE
  have hz := hx.lt
  clear hbx hl0 hb1 hx
  go_wp2_with fail
  refine bodyPost_ret (v := .agg #[.int .i64 10, .int .i64 0, .int .u64 0, .int .i64 0, .string ⟨#[]⟩, .int .i64 c, .int .i64 a]) (by simp [results, Tryz.results96, go_sem, r0, r1, r2, r3, r4, r5, r6, hz]) rfl ⟨rfl, ?_⟩
  repeat (first | with_reducible exact Hl.out | refine Below.setCell ?_ (by simp) _)
/-- A number that is read at a place: value, place, code. -/
def numR (s : ByteArray) (x E : Int) (p : Nat) : Int × Int × Int :=
  if widthR x = 0 then withinR s p E else if E - p < widthR x then (0, p, 9) else if (getFixR s p (widthR x)).2 = false then (0, s.size, 10) else ((getFixR s p (widthR x)).1, p + widthR x, 0)
theorem rdRaw_num {s : ByteArray} {x E : Int} {r : RdM} (hx : x = 0 ∨ x = 1 ∨ x = 5) :
    rdRaw s x E r = if (numR s x E r.place).2.2 ≠ 0 then (0, r.bad (numR s x E r.place).2.2 (numR s x E r.place).2.1) else ((numR s x E r.place).1, r.to (numR s x E r.place).2.1.toNat) := by
  unfold rdRaw numR
  rcases hx with rfl | rfl | rfl
  · rw [if_pos rfl, if_pos (show widthR 0 = 0 from rfl)]; rfl
  · rw [if_neg (by omega), if_neg (show ¬ widthR 1 = 0 by decide)]
    unfold rdFix
    by_cases h1 : E - r.place < widthR 1
    · rw [if_pos h1, if_pos h1]; rfl
    · rw [if_neg h1, if_neg h1]
      by_cases h2 : (getFixR s r.place (widthR 1)).2 = false
      · rw [if_pos h2, if_pos h2]; rfl
      · rw [if_neg h2, if_neg h2]; rfl
  · rw [if_neg (by omega), if_neg (show ¬ widthR 5 = 0 by decide)]
    unfold rdFix
    by_cases h1 : E - r.place < widthR 5
    · rw [if_pos h1, if_pos h1]; rfl
    · rw [if_neg h1, if_neg h1]
      by_cases h2 : (getFixR s r.place (widthR 5)).2 = false
      · rw [if_pos h2, if_pos h2]; rfl
      · rw [if_neg h2, if_neg h2]; rfl
theorem rdRaw_cases {s : ByteArray} {x E : Int} {r : RdM} (hp : r.place ≤ s.size) : (∃ c a, c ≠ 0 ∧ rdRaw s x E r = (0, r.bad c a)) ∨ ∃ U P : Nat, rdRaw s x E r = ((U : Int), r.to P) ∧ r.place < P ∧ P ≤ s.size ∧ (P : Int) ≤ E ∧ U < 18446744073709551616 := by
  unfold rdRaw
  by_cases h : x = 0
  · rw [if_pos h]
    rcases rdVar_cases (E := E) hp with ⟨c, a, h1, h2⟩ | ⟨P, U, h1, h2, h3, h4, h5⟩
    · exact .inl ⟨c, a, h1, h2⟩
    · exact .inr ⟨U, P, h1, h2, h3, h4, h5⟩
  · rw [if_neg h]
    rcases rdFix_cases (s := s) (W := widthR x) (E := E) (r := r) with ⟨c, a, h1, h2⟩ | ⟨U, N, h1, h2, h3, h4⟩
    · exact .inl ⟨c, a, h1, h2⟩
    · refine .inr ⟨U, r.place + N, h1, by omega, h3, h4, ?_⟩
      have hU : (rdFix s (widthR x) E r).1 = (U : Int) := by rw [h1]
      unfold rdFix at hU
      split at hU
      · have : (U : Int) = 0 := hU.symm
        omega
      · split at hU
        · have : (U : Int) = 0 := hU.symm
          omega
        · rename_i h6 h7
          have hh : (getFixR s r.place (widthR x)).1 = U := by have : (((getFixR s r.place (widthR x)).1 : Nat) : Int) = (U : Int) := hU; omega
          rw [← hh]
          by_cases hg : (widthR x = 4 ∨ widthR x = 8) ∧ 0 ≤ (r.place : Int) ∧ (r.place : Int) ≤ s.size - widthR x
          · rw [getFix_yes hg]
            have hl := Fix.le_lt ((s.data.toList.drop (r.place : Int).toNat).take (widthR x).toNat)
            have hn : ((s.data.toList.drop (r.place : Int).toNat).take (widthR x).toNat).length ≤ 8 := by
              rw [List.length_take]; rcases hg.1 with e | e <;> rw [e] <;> omega
            exact Nat.lt_of_lt_of_le hl (Nat.le_trans (Nat.pow_le_pow_right (by omega) hn) (by decide))
          · rw [getFix_no hg] at h7; exact absurd rfl h7
set_option maxHeartbeats 2000000 in
theorem numberWithin_any (s : ByteArray) (p : Nat) (E x : Int) (w : World) (hs : s.size ≤ 281474976710656) (hp : p ≤ s.size) (hE : (p : Int) ≤ E ∧ E ≤ 9223372036854775807) :
    Calls Tryz.prog 95 #[.string s, .int .i64 p, .int .i64 E, .int .i64 x] w fun e w' => e = .returned (getV (numR s x E p)) ∧ Below w.heap.size w w' := by
  obtain ⟨R, hR⟩ : ∃ R, numR s x E p = R := ⟨_, rfl⟩
  rw [hR]
  have HWd : Hid (∀ w, Calls Tryz.prog 132 #[.int .i64 x] w fun e w' => e = .returned (.int .i64 (widthR x)) ∧ w = w') := Lib.hid fun w => implWidthOf_any x w
  have hW8 : 0 ≤ widthR x ∧ widthR x ≤ 8 := by unfold widthR; split; omega; split <;> omega
  unfold numR at hR
  generalize widthR x = W at HWd hR hW8
  have hw1 : IntKind.i64.wrap (E - (p : Int)) = E - (p : Int) := IntWalk.i64_in _ (by omega)
  have hw2 : IntKind.i64.wrap ((p : Int) + W) = (p : Int) + W := IntWalk.i64_in _ (by omega)
  by_cases h0 : W = 0
  · subst h0
    rw [if_pos rfl] at hR
    have HC := Lib.hid (implVarWithin_any s p E w hs)
    rw [hR] at HC
    clear hR
    obtain ⟨a, b, c⟩ := R
    go_enter Tryz.func95, Tryz.ntmps95
    go_wp2_with fail
    refine (HWd.out _).mono ?_
    rintro e _ ⟨rfl, rfl⟩
    go_wp2_with fail
    refine HC.out.mono ?_
    unfold getV
    rintro e w1 ⟨rfl, hb1⟩
    go_wp2_with fail
    go_ret3
    exact ⟨rfl, hb1⟩
  · rw [if_neg h0] at hR
    have h0b : (W == 0) = false := neI h0
    by_cases h1 : E - (p : Int) < W
    · rw [if_pos h1] at hR
      subst hR
      clear h0
      go_enter Tryz.func95, Tryz.ntmps95
      go_wp2_with fail
      refine (HWd.out _).mono ?_
      rintro e _ ⟨rfl, rfl⟩
      go_wp2_with fail
      go_ret3
      exact ⟨rfl, Below.refl _ _⟩
    · rw [if_neg h1] at hR
      have h1b : decide (E - (p : Int) < W) = false := decide_eq_false h1
      have HC := Lib.hid (implGetFix_any s p W w hs (by omega))
      generalize hG : getFixR s p W = G at HC hR
      obtain ⟨v, k⟩ := G
      clear hG
      cases k with
      | false =>
        rw [if_pos rfl] at hR
        subst hR
        clear h0 h1
        go_enter Tryz.func95, Tryz.ntmps95
        go_wp2_with fail
        refine (HWd.out _).mono ?_
        rintro e _ ⟨rfl, rfl⟩
        go_wp2_with fail
        refine HC.out.mono ?_
        rintro e w1 ⟨rfl, hb1⟩
        go_wp2_with fail
        go_ret3
        exact ⟨rfl, hb1⟩
      | true =>
        rw [if_neg (by simp)] at hR
        subst hR
        clear h0 h1
        go_enter Tryz.func95, Tryz.ntmps95
        go_wp2_with fail
        refine (HWd.out _).mono ?_
        rintro e _ ⟨rfl, rfl⟩
        go_wp2_with fail
        refine HC.out.mono ?_
        rintro e w1 ⟨rfl, hb1⟩
        go_wp2_with fail
        go_ret3
        exact ⟨rfl, hb1⟩
end Go.Proofs.YtpkofbdfnbpfpaaGreat.Num


/-
  The program's reader of messages: its closure for a number, its closure for some bytes.
-/
namespace Go.Proofs.YtpkofbdfnbpfpaaGreat.Num
open Go.RowKit Go.Proofs
set_option linter.unusedVariables false
set_option linter.unusedSimpArgs false
theorem numR_cases {s : ByteArray} {x E : Int} {p : Nat} {out : List Ev} (hx : x = 0 ∨ x = 1 ∨ x = 5) (hp : p ≤ s.size) :
    (∃ v a c, c ≠ 0 ∧ numR s x E p = (v, a, c) ∧ rdRaw s x E ⟨p, out, zeroE⟩ = (0, ⟨p, out, failE c a⟩)) ∨
      ∃ U P : Nat, numR s x E p = ((U : Int), (P : Int), 0) ∧ rdRaw s x E ⟨p, out, zeroE⟩ = ((U : Int), ⟨P, out, zeroE⟩) ∧ p < P ∧ P ≤ s.size ∧ (P : Int) ≤ E ∧ U < 18446744073709551616 := by
  have hq := rdRaw_num (s := s) (E := E) (r := ⟨p, out, zeroE⟩) hx
  have hc := rdRaw_cases (s := s) (x := x) (E := E) (r := ⟨p, out, zeroE⟩) hp
  obtain ⟨⟨a, b, c⟩, hR⟩ : ∃ R, numR s x E p = R := ⟨_, rfl⟩
  have hR' : numR s x E (RdM.place ⟨p, out, zeroE⟩) = (a, b, c) := hR
  rw [hR'] at hq
  by_cases h0 : c = 0
  · subst h0
    rw [if_neg (fun h => h rfl)] at hq
    right
    rcases hc with ⟨c', a', h1, h2⟩ | ⟨U, P, h1, h2, h3, h4, h5⟩
    · rw [hq] at h2
      have h5 : ((⟨p, out, zeroE⟩ : RdM).to b.toNat).fail = ((⟨p, out, zeroE⟩ : RdM).bad c' a').fail := by rw [(Prod.mk.inj h2).2]
      have h6 : (0 : Int) = 10 := congrArg Ev.kind h5
      omega
    · have h1' := h1
      rw [hq] at h1'
      have e1 : a = (U : Int) := (Prod.mk.inj h1').1
      have e2 : b.toNat = P := congrArg RdM.place (Prod.mk.inj h1').2
      have h2' : p < P := h2
      refine ⟨U, P, ?_, h1, h2, h3, h4, h5⟩
      rw [hR, e1, show b = (P : Int) by omega]
  · rw [if_pos h0] at hq
    exact .inl ⟨a, b, c, h0, hR, hq⟩
theorem zero_evV : evV zeroE = .agg #[.int .i64 0, .int .i64 0, .int .u64 0, .int .i64 0, .string ⟨#[]⟩, .int .i64 0, .int .i64 0] := rfl
theorem fail_evV (c a : Int) : evV (failE c a) = .agg #[.int .i64 10, .int .i64 0, .int .u64 0, .int .i64 0, .string ⟨#[]⟩, .int .i64 c, .int .i64 a] := rfl
set_option maxHeartbeats 2000000 in
theorem number_any {w : World} {g bs bp L B p : Nat} {u o : Value} {sch : List RM} {D Rt Mo : Int} {s : ByteArray} {out : List Ev} (h : RI w g bs bp L B u Rt Mo sch D s o p out) (x E : Int) (hx : x = 0 ∨ x = 1 ∨ x = 5) (hE : (p : Int) ≤ E ∧ E ≤ 9223372036854775807) (hs : s.size ≤ 281474976710656) :
    Calls Tryz.prog 94 #[.int .i64 x, .int .i64 E, .pointer (some ⟨bs, 0, none⟩), .pointer (some ⟨bp, 0, none⟩)] w fun e w' =>
      e = .returned (.tuple #[.int .u64 (rdRaw s x E ⟨p, out, zeroE⟩).1, evV (rdRaw s x E ⟨p, out, zeroE⟩).2.fail]) ∧ RI w' g bs bp L B u Rt Mo sch D s o (rdRaw s x E ⟨p, out, zeroE⟩).2.place out ∧ MovI g bp o o w w' := by
  have HN : Hid (∀ w, Calls Tryz.prog 95 #[.string s, .int .i64 p, .int .i64 E, .int .i64 x] w fun e w' => e = .returned (getV (numR s x E p)) ∧ Below w.heap.size w w') := Lib.hid fun w => numberWithin_any s p E x w hs h.inn hE
  have HQ := Lib.hid (numR_cases (E := E) (out := out) hx h.inn)
  generalize rdRaw s x E ⟨p, out, zeroE⟩ = Q at HQ ⊢
  obtain ⟨R, hR⟩ : ∃ R, numR s x E p = R := ⟨_, rfl⟩
  rw [hR] at HN HQ
  clear hR
  have hz := h.lt
  have H0 := Lib.hid h
  have hbx := Box.fresh w #[.int .i64 0, .int .i64 0, .int .u64 0, .int .i64 0, .string ⟨#[]⟩, .int .i64 0, .int .i64 0] 34
  have hl0 : Below w.heap.size w (w.alloc (.cells #[.int .i64 0, .int .i64 0, .int .u64 0, .int .i64 0, .string ⟨#[]⟩, .int .i64 0, .int .i64 0] 34)) := (Below.refl _ _).alloc (Nat.le_refl _) _
  obtain ⟨_, _, c0, c1, f1⟩ := (h.below hl0).cells
  have Hloc := Lib.hid (h.fresh (Nat.le_refl w.heap.size))
  clear h
  go_enter Tryz.func94, Tryz.ntmps94
  go_wp2_with fail
  refine (HN.out _).mono ?_
  unfold getV
  rintro e w1 ⟨rfl, hb1⟩
  have hx1 := hbx.below hb1 hbx.lt
  have hl1 := hl0.trans (hb1.mono hl0.size)
  have hm1 : MovI g bp o o w w1 := .of_below hl1
  have H1 := H0.out.below hl1
  have hsz := hl1.size
  clear c0 c1 f1 hb1 hbx hl0 hl1
  rcases HQ.out with ⟨v, a, c, hc, rfl, rfl⟩ | ⟨U, P, rfl, rfl, _, hP, _, _⟩
  · have hcb : (c != 0) = true := by simpa using hc
    obtain ⟨_, _, c0, c1, f1⟩ := H1.cells
    have H1' := Lib.hid H1
    have hzx := hx1.lt
    clear hc HQ H0 H1
    go_wp2_with fail
    refine (failure_any c a _).mono ?_
    unfold evV
    simp only [failE]
    rintro e w2 ⟨rfl, hb2⟩
    have hx2 := hx1.below hb2 hx1.lt
    have hl2 := hm1.trans (.of_below hb2)
    have H2 := Lib.hid (H1'.out.below hb2)
    clear c0 c1 f1 hb2 hx1 hm1 H1' hzx
    generalize hgx : w.heap.size = gx at hx2 Hloc hsz ⊢
    have hzx := hx2.lt
    obtain ⟨⟨r0, r1, r2, r3, r4, r5, r6⟩, s0, s1, s2, s3, s4, s5, s6⟩ := hx2.sevenE
    go_wp2_with fail
    refine bodyPost_ret (v := .tuple #[.int .u64 0, .agg #[.int .i64 10, .int .i64 0, .int .u64 0, .int .i64 0, .string ⟨#[]⟩, .int .i64 c, .int .i64 a]]) (by simp [results, Tryz.results94, go_sem, r0, r1, r2, r3, r4, r5, r6, hzx]) rfl ⟨rfl, ?_, ?_⟩
    · repeat (first | with_reducible exact H2.out | refine RI.loc ?_ Hloc.out _ _)
    · repeat (first | with_reducible exact hl2 | refine MovI.setX ?_ (Nat.le_of_eq hgx) _ _)
  · obtain ⟨_, _, c0, c1, f1⟩ := H1.cells
    have H2 := H1.to P hP
    have hm2 := hm1.setP 0 (.int .i64 P)
    have hx2 := hx1.other (a := ⟨bp, 0, none⟩) (fun e => Hloc.out.p e.symm) (.int .i64 P)
    have hx0 := hx1
    have HH2 := Lib.hid H2
    have hzx := hx1.lt
    have hne : ¬ w.heap.size = bp := Hloc.out.p
    have hne2 : ¬ bp = w.heap.size := fun e => Hloc.out.p e.symm
    obtain ⟨hg1, hs1, hp1⟩ := H1.lt
    obtain ⟨⟨r0, r1, r2, r3, r4, r5, r6⟩, s0, s1, s2, s3, s4, s5, s6⟩ := hx1.sevenE
    clear HQ H0 H1 H2 hx2 hx1 hx0
    generalize hgx : w.heap.size = gx at r0 r1 r2 r3 r4 r5 r6 s0 s1 s2 s3 s4 s5 s6 Hloc hzx hsz hne hne2 ⊢
    go_wp2_with fail
    refine bodyPost_ret (v := .tuple #[.int .u64 U, .agg #[.int .i64 0, .int .i64 0, .int .u64 0, .int .i64 0, .string ⟨#[]⟩, .int .i64 0, .int .i64 0]]) (by simp [results, Tryz.results94, go_sem, r0, r1, r2, r3, r4, r5, r6, hzx]) rfl ⟨rfl, ?_, ?_⟩
    · repeat (first | with_reducible exact HH2.out | refine RI.loc ?_ Hloc.out _ _)
    · repeat (first | with_reducible exact hm2 | refine MovI.setX ?_ (Nat.le_of_eq hgx) _ _)
set_option maxHeartbeats 2000000 in
theorem bytes_any {w : World} {g bs bp L B p : Nat} {u o : Value} {sch : List RM} {D Rt Mo : Int} {s : ByteArray} {out : List Ev} (h : RI w g bs bp L B u Rt Mo sch D s o p out) (n : Nat) (hn : n ≤ 9223372036854775807) (hs : s.size ≤ 281474976710656) :
    Calls Tryz.prog 97 #[.int .i64 n, .pointer (some ⟨bp, 0, none⟩), .pointer (some ⟨bs, 0, none⟩)] w fun e w' =>
      e = .returned (.string (thereB s p n)) ∧ RI w' g bs bp L B u Rt Mo sch D s o (min s.size (p + n)) out ∧ MovI g bp o o w w' := by
  unfold thereB
  obtain ⟨M, hM⟩ : ∃ M, min s.size (p + n) = M := ⟨_, rfl⟩
  have hp := h.inn
  have hM1 : M ≤ s.size := by omega
  have hM2 : p ≤ M := by omega
  rw [hM]
  have HM := Lib.hid hM
  have H2 := Lib.hid (h.to M hM1)
  have hm2 := (MovI.refl g bp o w).setP 0 (.int .i64 M)
  obtain ⟨hg1, hs1, hp1⟩ := h.lt
  have hsp := h.sp
  have hsp2 : ¬ bs = bp := hsp
  obtain ⟨_, _, c0, c1, f1⟩ := h.cells
  clear h hM
  by_cases hlt : (n : Int) < (s.size : Int) - p
  · obtain rfl : M = p + n := by have := HM.out; omega
    go_enter Tryz.func97, Tryz.ntmps97
    go_wp2_with fail
    go_ret
    have e : ((p + n : Nat) : Int) = (p : Int) + (n : Int) := by simp
    have h2 := H2.out
    rw [e] at h2 hm2
    exact ⟨rfl, h2, hm2⟩
  · obtain rfl : M = s.size := by have := HM.out; omega
    go_enter Tryz.func97, Tryz.ntmps97
    go_wp2_with fail
    all_goals
      first
        | rw [show ((p : Int) + ((s.size : Int) - (p : Int))) = (s.size : Int) by omega]
        | rw [show ((p : Int) + (n : Int)) = (s.size : Int) by omega]
      go_ret
      exact ⟨by simp, H2.out, hm2⟩
end Go.Proofs.YtpkofbdfnbpfpaaGreat.Num


/-
  The program's reader of messages: one more event is told, of each kind.
-/
namespace Go.Proofs.YtpkofbdfnbpfpaaGreat.Num
open Go.RowKit Go.Proofs
set_option linter.unusedVariables false
set_option linter.unusedSimpArgs false
/-- The reader while what it told is being written: all but what was told. -/
structure RI2 (w : World) (g bs bp L B : Nat) (u : Value) (Rt Mo : Int) (sch : List RM) (D : Int) (s : ByteArray) (o : Value) (p : Nat) : Prop where
  box : Box w g [u, .int .i64 Rt, .int .i64 D, .int .i64 Mo, plF bp, nuF bs bp, byF bs bp, o]
  str : Box w bs [.string s]
  pl : Box w bp [.int .i64 p]
  msgs : MsgsAt w (· < L) u sch
  inn : p ≤ s.size
  gB : g < B
  sB : bs < B
  pB : bp < B
  gL : L ≤ g
  sL : L ≤ bs
  pL : L ≤ bp
  gs : g ≠ bs
  gp : g ≠ bp
  sp : bs ≠ bp
  bz : B ≤ w.heap.size
section
variable {g bs bp L B gx p : Nat} {o o' u : Value} {w w' : World} {sch : List RM} {D Rt Mo : Int} {s : ByteArray} {out : List Ev}
theorem RI2.of (h : RI w g bs bp L B u Rt Mo sch D s o p out) (hg : w.grownBy w' o.ownBlock) : RI2 w' g bs bp L B u Rt Mo sch D s o p := by
  have hne : ∀ b, b < B → o.ownBlock ≠ some b := fun b hb e => by have := (h.own.lt b e).1; omega
  have hbw : Below (min B w.heap.size) w w' := (Below.refl _ w).grown hg (Nat.min_le_right _ _) fun k hk => Nat.le_trans (Nat.min_le_left _ _) (h.own.lt k hk).1
  exact ⟨h.box.grownB hg (hne g h.gB), h.str.grownB hg (hne bs h.sB), h.pl.grownB hg (hne bp h.pB), h.msgs.keep (.of_below hbw fun b hb' => by have := h.gL; have := h.gB; have := h.lt.1; show b < min B w.heap.size; have hb2 : b < L := hb'; omega) fun _ h => h, h.inn, h.gB, h.sB, h.pB, h.gL, h.sL, h.pL, h.gs, h.gp, h.sp, Nat.le_trans h.bz hg.size⟩
theorem RI2.told {cap g' : Nat} {x : Ev} (h : RI2 w g bs bp L B u Rt Mo sch D s o p)
    (ho : w.ownsRow B 34 7 (.slice (some ⟨g', 0, none⟩) (out.length + 1) cap) (out.length + 1) (out.flatMap evC ++ evC x)) :
    RI (w.setCell ⟨g, 7, none⟩ (.slice (some ⟨g', 0, none⟩) (out.length + 1) cap)) g bs bp L B u Rt Mo sch D s (.slice (some ⟨g', 0, none⟩) (out.length + 1) cap) p (out ++ [x]) := by
  have h' : OwnE w B 34 (.slice (some ⟨g', 0, none⟩) (out.length + 1) cap) (out ++ [x]) := by unfold OwnE; rw [List.length_append, flat_snoc]; exact ho
  exact ⟨by have := h.box.set 7 (.slice (some ⟨g', 0, none⟩) (out.length + 1) cap); exact this, h.str.other (a := ⟨g, 7, none⟩) (fun e => h.gs e) _, h.pl.other (a := ⟨g, 7, none⟩) (fun e => h.gp e) _, h'.other (p := ⟨g, 7, none⟩) h.gB _, h.msgs.keep (.of_set (p := ⟨g, 7, none⟩) _ (Nat.not_lt.mpr h.gL)) fun _ h => h, h.inn, h.gB, h.sB, h.pB, h.gL, h.sL, h.pL, h.gs, h.gp, h.sp, by have := h.bz; simpa [World.setCell] using this⟩
theorem RI2.cell5 (h : RI2 w g bs bp L B u Rt Mo sch D s o p) : w.cell? ⟨g, 7, none⟩ = some o ∧ w.frozen? ⟨g, 7, none⟩ = false := ⟨(h.box.2 7 (by simp)).1, (h.box.2 7 (by simp)).2⟩
theorem MovI.grown {w2 : World} {n g' c : Nat} {row : Option Nat} (h : w'.grownBy w2 row) (hr : row = o.ownBlock) (hl : Below w.heap.size w w') (ho : o.ownBlock = some g' ∨ w.heap.size ≤ g') : MovI g bp o (.slice (some ⟨g', 0, none⟩) n c) w w2 := by
  subst hr
  refine ⟨h.os.trans hl.os, h.tape.trans hl.tape, h.output.trans hl.output, Nat.le_trans hl.size h.size, fun k hk _ _ hk' => (h.block k (Nat.lt_of_lt_of_le hk hl.size) fun e => hk' e.symm).trans (hl.block k hk), fun k hk => ?_⟩
  have e : g' = k := by simpa [Value.ownBlock] using hk
  subst e
  exact ho
end
set_option maxHeartbeats 4000000 in
set_option maxRecDepth 100000 in
theorem emitdown_any {w : World} {g bs bp L B p : Nat} {u o : Value} {sch : List RM} {D Rt Mo : Int} {s : ByteArray} {out : List Ev} (h : RI w g bs bp L B u Rt Mo sch D s o p out) (f l : Int) (hn : out.length ≤ 1048576000) :
    Calls Tryz.prog 111 #[.pointer (some ⟨g, 0, none⟩), .iface 215 (.agg #[.int .i64 f, .int .i64 l])] w fun e w' => e = .returned (.tuple #[]) ∧ ∃ o', RI w' g bs bp L B u Rt Mo sch D s o' p (out ++ [downE f l]) ∧ MovI g bp o o' w w' := by
  obtain ⟨i0, hi, hz0, hz1, hz2⟩ := info_parts info_event
  have hX : downE f l = downE f l := rfl
  have HX : Hid (∀ w, Calls Tryz.prog 224 #[.agg #[.int .i64 f, .int .i64 l]] w fun e w' => e = .returned (evV (downE f l)) ∧ Below w.heap.size w w') := Lib.hid fun w => downKind_any f l w
  generalize downE f l = x at HX hX ⊢
  clear hX
  obtain ⟨k, kf, kb, kl, kt, kc, kp⟩ := x
  unfold evV at HX
  simp only at HX
  have hM : ∀ w, (Go.method 353 215 (.agg #[.int .i64 f, .int .i64 l]) "loop.example/g00498/impl.event").run Tryz.prog w = .ok (224, .agg #[.int .i64 f, .int .i64 l]) w := fun w => by kernel_rfl
  have H0 := Lib.hid h
  have hg := h.lt.1
  obtain ⟨⟨c0, c1, c2, c3, c4, c5⟩, f5, _⟩ := h.cells
  clear h
  go_enter Tryz.func111, Tryz.ntmps111
  go_wp2_with fail
  go_region_law (first | (refine step_append_lies _ (by rfl) _ _ 31 (by rfl) B 34 i0 _ 7 64 Tryz.underlying31 hi hz0 hz1 hz2 (by rfl) (by omega) o _ _ (by rfl) (World.ownsRow.alloc hown1 _) ⟨w1.heap.size, 0, none⟩ 1 1 (evC ⟨k, kf, kb, kl, kt, kc, kp⟩) (by rfl) (by rfl) (fun j u hj => World.news_of_block hnew j u hj) (by intro u hu; simp [evC] at hu; rcases hu with rfl | rfl | rfl | rfl | rfl | rfl | rfl <;> rfl) (by omega) (by unfold maxLen; omega) (by omega) (by simp; omega) (w1.heap.size + 1) (by simp) ?_; intro g' cap' w2 hown2 hg2 hor2 hlt2; have hx2 : Hid (RI2 w2 g bs bp L B u Rt Mo sch D s o p) := Lib.hid (RI2.of (H1.out.alloc _) hg2); have hm2 : Hid (MovI g bp o (.slice (some ⟨g', 0, none⟩) (out.length + 1) cap') w w2) := Lib.hid (MovI.grown hg2 rfl (hl1.out.alloc hl1.out.size _) (by rcases hor2 with e | e; exact .inl e; have := hl1.out.size; exact .inr (by omega))); obtain ⟨c6', f6'⟩ := RI2.cell5 hx2.out) | (go_simp; go_wp2_with (go_at_call 224; refine (HX.out _).mono ?_; rintro e w1 ⟨rfl, hb1⟩; have hl1 : Hid (Below w.heap.size w w1) := Lib.hid ((Below.refl _ _).drew.trans hb1); have H1 := Lib.hid (H0.out.below hl1.out); have hg1 := H1.out.lt.1; have hown1 : w1.ownsRow B 34 7 o out.length (out.flatMap evC) := H1.out.own; have hgB := H1.out.gB; have hBz := H1.out.bz; have hnew : (w1.alloc (.cells #[.int .i64 k, .int .i64 kf, .int .u64 kb, .int .i64 kl, .string kt, .int .i64 kc, .int .i64 kp] 34)).heap[w1.heap.size]? = some (.cells #[.int .i64 k, .int .i64 kf, .int .u64 kb, .int .i64 kl, .string kt, .int .i64 kc, .int .i64 kp] 34 (0, 0)) := heap_alloc_new _ _; obtain ⟨⟨d0, d1, d2, d3, d4, d5⟩, e5, _⟩ := H1.out.cells)))
  all_goals
    go_wp2_with fail
    go_end0
    exact ⟨rfl, _, RI2.told hx2.out hown2, hm2.out.setG _ _⟩
set_option maxHeartbeats 4000000 in
set_option maxRecDepth 100000 in
theorem emitup_any {w : World} {g bs bp L B p : Nat} {u o : Value} {sch : List RM} {D Rt Mo : Int} {s : ByteArray} {out : List Ev} (h : RI w g bs bp L B u Rt Mo sch D s o p out)  (hn : out.length ≤ 1048576000) :
    Calls Tryz.prog 111 #[.pointer (some ⟨g, 0, none⟩), .iface 216 (.agg #[])] w fun e w' => e = .returned (.tuple #[]) ∧ ∃ o', RI w' g bs bp L B u Rt Mo sch D s o' p (out ++ [upE]) ∧ MovI g bp o o' w w' := by
  obtain ⟨i0, hi, hz0, hz1, hz2⟩ := info_parts info_event
  have hX : upE = upE := rfl
  have HX : Hid (∀ w, Calls Tryz.prog 225 #[.agg #[]] w fun e w' => e = .returned (evV (upE)) ∧ Below w.heap.size w w') := Lib.hid fun w => upKind_any  w
  generalize upE = x at HX hX ⊢
  clear hX
  obtain ⟨k, kf, kb, kl, kt, kc, kp⟩ := x
  unfold evV at HX
  simp only at HX
  have hM : ∀ w, (Go.method 353 216 (.agg #[]) "loop.example/g00498/impl.event").run Tryz.prog w = .ok (225, .agg #[]) w := fun w => by kernel_rfl
  have H0 := Lib.hid h
  have hg := h.lt.1
  obtain ⟨⟨c0, c1, c2, c3, c4, c5⟩, f5, _⟩ := h.cells
  clear h
  go_enter Tryz.func111, Tryz.ntmps111
  go_wp2_with fail
  go_region_law (first | (refine step_append_lies _ (by rfl) _ _ 31 (by rfl) B 34 i0 _ 7 64 Tryz.underlying31 hi hz0 hz1 hz2 (by rfl) (by omega) o _ _ (by rfl) (World.ownsRow.alloc hown1 _) ⟨w1.heap.size, 0, none⟩ 1 1 (evC ⟨k, kf, kb, kl, kt, kc, kp⟩) (by rfl) (by rfl) (fun j u hj => World.news_of_block hnew j u hj) (by intro u hu; simp [evC] at hu; rcases hu with rfl | rfl | rfl | rfl | rfl | rfl | rfl <;> rfl) (by omega) (by unfold maxLen; omega) (by omega) (by simp; omega) (w1.heap.size + 1) (by simp) ?_; intro g' cap' w2 hown2 hg2 hor2 hlt2; have hx2 : Hid (RI2 w2 g bs bp L B u Rt Mo sch D s o p) := Lib.hid (RI2.of (H1.out.alloc _) hg2); have hm2 : Hid (MovI g bp o (.slice (some ⟨g', 0, none⟩) (out.length + 1) cap') w w2) := Lib.hid (MovI.grown hg2 rfl (hl1.out.alloc hl1.out.size _) (by rcases hor2 with e | e; exact .inl e; have := hl1.out.size; exact .inr (by omega))); obtain ⟨c6', f6'⟩ := RI2.cell5 hx2.out) | (go_simp; go_wp2_with (go_at_call 225; refine (HX.out _).mono ?_; rintro e w1 ⟨rfl, hb1⟩; have hl1 : Hid (Below w.heap.size w w1) := Lib.hid ((Below.refl _ _).drew.trans hb1); have H1 := Lib.hid (H0.out.below hl1.out); have hg1 := H1.out.lt.1; have hown1 : w1.ownsRow B 34 7 o out.length (out.flatMap evC) := H1.out.own; have hgB := H1.out.gB; have hBz := H1.out.bz; have hnew : (w1.alloc (.cells #[.int .i64 k, .int .i64 kf, .int .u64 kb, .int .i64 kl, .string kt, .int .i64 kc, .int .i64 kp] 34)).heap[w1.heap.size]? = some (.cells #[.int .i64 k, .int .i64 kf, .int .u64 kb, .int .i64 kl, .string kt, .int .i64 kc, .int .i64 kp] 34 (0, 0)) := heap_alloc_new _ _; obtain ⟨⟨d0, d1, d2, d3, d4, d5⟩, e5, _⟩ := H1.out.cells)))
  all_goals
    go_wp2_with fail
    go_end0
    exact ⟨rfl, _, RI2.told hx2.out hown2, hm2.out.setG _ _⟩
set_option maxHeartbeats 4000000 in
set_option maxRecDepth 100000 in
theorem emitopen_any {w : World} {g bs bp L B p : Nat} {u o : Value} {sch : List RM} {D Rt Mo : Int} {s : ByteArray} {out : List Ev} (h : RI w g bs bp L B u Rt Mo sch D s o p out) (f l : Int) (hn : out.length ≤ 1048576000) :
    Calls Tryz.prog 111 #[.pointer (some ⟨g, 0, none⟩), .iface 217 (.agg #[.int .i64 f, .int .i64 l])] w fun e w' => e = .returned (.tuple #[]) ∧ ∃ o', RI w' g bs bp L B u Rt Mo sch D s o' p (out ++ [openE f l]) ∧ MovI g bp o o' w w' := by
  obtain ⟨i0, hi, hz0, hz1, hz2⟩ := info_parts info_event
  have hX : openE f l = openE f l := rfl
  have HX : Hid (∀ w, Calls Tryz.prog 226 #[.agg #[.int .i64 f, .int .i64 l]] w fun e w' => e = .returned (evV (openE f l)) ∧ Below w.heap.size w w') := Lib.hid fun w => openKind_any f l w
  generalize openE f l = x at HX hX ⊢
  clear hX
  obtain ⟨k, kf, kb, kl, kt, kc, kp⟩ := x
  unfold evV at HX
  simp only at HX
  have hM : ∀ w, (Go.method 353 217 (.agg #[.int .i64 f, .int .i64 l]) "loop.example/g00498/impl.event").run Tryz.prog w = .ok (226, .agg #[.int .i64 f, .int .i64 l]) w := fun w => by kernel_rfl
  have H0 := Lib.hid h
  have hg := h.lt.1
  obtain ⟨⟨c0, c1, c2, c3, c4, c5⟩, f5, _⟩ := h.cells
  clear h
  go_enter Tryz.func111, Tryz.ntmps111
  go_wp2_with fail
  go_region_law (first | (refine step_append_lies _ (by rfl) _ _ 31 (by rfl) B 34 i0 _ 7 64 Tryz.underlying31 hi hz0 hz1 hz2 (by rfl) (by omega) o _ _ (by rfl) (World.ownsRow.alloc hown1 _) ⟨w1.heap.size, 0, none⟩ 1 1 (evC ⟨k, kf, kb, kl, kt, kc, kp⟩) (by rfl) (by rfl) (fun j u hj => World.news_of_block hnew j u hj) (by intro u hu; simp [evC] at hu; rcases hu with rfl | rfl | rfl | rfl | rfl | rfl | rfl <;> rfl) (by omega) (by unfold maxLen; omega) (by omega) (by simp; omega) (w1.heap.size + 1) (by simp) ?_; intro g' cap' w2 hown2 hg2 hor2 hlt2; have hx2 : Hid (RI2 w2 g bs bp L B u Rt Mo sch D s o p) := Lib.hid (RI2.of (H1.out.alloc _) hg2); have hm2 : Hid (MovI g bp o (.slice (some ⟨g', 0, none⟩) (out.length + 1) cap') w w2) := Lib.hid (MovI.grown hg2 rfl (hl1.out.alloc hl1.out.size _) (by rcases hor2 with e | e; exact .inl e; have := hl1.out.size; exact .inr (by omega))); obtain ⟨c6', f6'⟩ := RI2.cell5 hx2.out) | (go_simp; go_wp2_with (go_at_call 226; refine (HX.out _).mono ?_; rintro e w1 ⟨rfl, hb1⟩; have hl1 : Hid (Below w.heap.size w w1) := Lib.hid ((Below.refl _ _).drew.trans hb1); have H1 := Lib.hid (H0.out.below hl1.out); have hg1 := H1.out.lt.1; have hown1 : w1.ownsRow B 34 7 o out.length (out.flatMap evC) := H1.out.own; have hgB := H1.out.gB; have hBz := H1.out.bz; have hnew : (w1.alloc (.cells #[.int .i64 k, .int .i64 kf, .int .u64 kb, .int .i64 kl, .string kt, .int .i64 kc, .int .i64 kp] 34)).heap[w1.heap.size]? = some (.cells #[.int .i64 k, .int .i64 kf, .int .u64 kb, .int .i64 kl, .string kt, .int .i64 kc, .int .i64 kp] 34 (0, 0)) := heap_alloc_new _ _; obtain ⟨⟨d0, d1, d2, d3, d4, d5⟩, e5, _⟩ := H1.out.cells)))
  all_goals
    go_wp2_with fail
    go_end0
    exact ⟨rfl, _, RI2.told hx2.out hown2, hm2.out.setG _ _⟩
set_option maxHeartbeats 4000000 in
set_option maxRecDepth 100000 in
theorem emitpart_any {w : World} {g bs bp L B p : Nat} {u o : Value} {sch : List RM} {D Rt Mo : Int} {s : ByteArray} {out : List Ev} (h : RI w g bs bp L B u Rt Mo sch D s o p out) (t : ByteArray) (hn : out.length ≤ 1048576000) :
    Calls Tryz.prog 111 #[.pointer (some ⟨g, 0, none⟩), .iface 221 (.agg #[.string t])] w fun e w' => e = .returned (.tuple #[]) ∧ ∃ o', RI w' g bs bp L B u Rt Mo sch D s o' p (out ++ [partE t]) ∧ MovI g bp o o' w w' := by
  obtain ⟨i0, hi, hz0, hz1, hz2⟩ := info_parts info_event
  have hX : partE t = partE t := rfl
  have HX : Hid (∀ w, Calls Tryz.prog 227 #[.agg #[.string t]] w fun e w' => e = .returned (evV (partE t)) ∧ Below w.heap.size w w') := Lib.hid fun w => partKind_any t w
  generalize partE t = x at HX hX ⊢
  clear hX
  obtain ⟨k, kf, kb, kl, kt, kc, kp⟩ := x
  unfold evV at HX
  simp only at HX
  have hM : ∀ w, (Go.method 353 221 (.agg #[.string t]) "loop.example/g00498/impl.event").run Tryz.prog w = .ok (227, .agg #[.string t]) w := fun w => by kernel_rfl
  have H0 := Lib.hid h
  have hg := h.lt.1
  obtain ⟨⟨c0, c1, c2, c3, c4, c5⟩, f5, _⟩ := h.cells
  clear h
  go_enter Tryz.func111, Tryz.ntmps111
  go_wp2_with fail
  go_region_law (first | (refine step_append_lies _ (by rfl) _ _ 31 (by rfl) B 34 i0 _ 7 64 Tryz.underlying31 hi hz0 hz1 hz2 (by rfl) (by omega) o _ _ (by rfl) (World.ownsRow.alloc hown1 _) ⟨w1.heap.size, 0, none⟩ 1 1 (evC ⟨k, kf, kb, kl, kt, kc, kp⟩) (by rfl) (by rfl) (fun j u hj => World.news_of_block hnew j u hj) (by intro u hu; simp [evC] at hu; rcases hu with rfl | rfl | rfl | rfl | rfl | rfl | rfl <;> rfl) (by omega) (by unfold maxLen; omega) (by omega) (by simp; omega) (w1.heap.size + 1) (by simp) ?_; intro g' cap' w2 hown2 hg2 hor2 hlt2; have hx2 : Hid (RI2 w2 g bs bp L B u Rt Mo sch D s o p) := Lib.hid (RI2.of (H1.out.alloc _) hg2); have hm2 : Hid (MovI g bp o (.slice (some ⟨g', 0, none⟩) (out.length + 1) cap') w w2) := Lib.hid (MovI.grown hg2 rfl (hl1.out.alloc hl1.out.size _) (by rcases hor2 with e | e; exact .inl e; have := hl1.out.size; exact .inr (by omega))); obtain ⟨c6', f6'⟩ := RI2.cell5 hx2.out) | (go_simp; go_wp2_with (go_at_call 227; refine (HX.out _).mono ?_; rintro e w1 ⟨rfl, hb1⟩; have hl1 : Hid (Below w.heap.size w w1) := Lib.hid ((Below.refl _ _).drew.trans hb1); have H1 := Lib.hid (H0.out.below hl1.out); have hg1 := H1.out.lt.1; have hown1 : w1.ownsRow B 34 7 o out.length (out.flatMap evC) := H1.out.own; have hgB := H1.out.gB; have hBz := H1.out.bz; have hnew : (w1.alloc (.cells #[.int .i64 k, .int .i64 kf, .int .u64 kb, .int .i64 kl, .string kt, .int .i64 kc, .int .i64 kp] 34)).heap[w1.heap.size]? = some (.cells #[.int .i64 k, .int .i64 kf, .int .u64 kb, .int .i64 kl, .string kt, .int .i64 kc, .int .i64 kp] 34 (0, 0)) := heap_alloc_new _ _; obtain ⟨⟨d0, d1, d2, d3, d4, d5⟩, e5, _⟩ := H1.out.cells)))
  all_goals
    go_wp2_with fail
    go_end0
    exact ⟨rfl, _, RI2.told hx2.out hown2, hm2.out.setG _ _⟩
set_option maxHeartbeats 4000000 in
set_option maxRecDepth 100000 in
theorem emitshut_any {w : World} {g bs bp L B p : Nat} {u o : Value} {sch : List RM} {D Rt Mo : Int} {s : ByteArray} {out : List Ev} (h : RI w g bs bp L B u Rt Mo sch D s o p out)  (hn : out.length ≤ 1048576000) :
    Calls Tryz.prog 111 #[.pointer (some ⟨g, 0, none⟩), .iface 222 (.agg #[])] w fun e w' => e = .returned (.tuple #[]) ∧ ∃ o', RI w' g bs bp L B u Rt Mo sch D s o' p (out ++ [shutE]) ∧ MovI g bp o o' w w' := by
  obtain ⟨i0, hi, hz0, hz1, hz2⟩ := info_parts info_event
  have hX : shutE = shutE := rfl
  have HX : Hid (∀ w, Calls Tryz.prog 228 #[.agg #[]] w fun e w' => e = .returned (evV (shutE)) ∧ Below w.heap.size w w') := Lib.hid fun w => shutKind_any  w
  generalize shutE = x at HX hX ⊢
  clear hX
  obtain ⟨k, kf, kb, kl, kt, kc, kp⟩ := x
  unfold evV at HX
  simp only at HX
  have hM : ∀ w, (Go.method 353 222 (.agg #[]) "loop.example/g00498/impl.event").run Tryz.prog w = .ok (228, .agg #[]) w := fun w => by kernel_rfl
  have H0 := Lib.hid h
  have hg := h.lt.1
  obtain ⟨⟨c0, c1, c2, c3, c4, c5⟩, f5, _⟩ := h.cells
  clear h
  go_enter Tryz.func111, Tryz.ntmps111
  go_wp2_with fail
  go_region_law (first | (refine step_append_lies _ (by rfl) _ _ 31 (by rfl) B 34 i0 _ 7 64 Tryz.underlying31 hi hz0 hz1 hz2 (by rfl) (by omega) o _ _ (by rfl) (World.ownsRow.alloc hown1 _) ⟨w1.heap.size, 0, none⟩ 1 1 (evC ⟨k, kf, kb, kl, kt, kc, kp⟩) (by rfl) (by rfl) (fun j u hj => World.news_of_block hnew j u hj) (by intro u hu; simp [evC] at hu; rcases hu with rfl | rfl | rfl | rfl | rfl | rfl | rfl <;> rfl) (by omega) (by unfold maxLen; omega) (by omega) (by simp; omega) (w1.heap.size + 1) (by simp) ?_; intro g' cap' w2 hown2 hg2 hor2 hlt2; have hx2 : Hid (RI2 w2 g bs bp L B u Rt Mo sch D s o p) := Lib.hid (RI2.of (H1.out.alloc _) hg2); have hm2 : Hid (MovI g bp o (.slice (some ⟨g', 0, none⟩) (out.length + 1) cap') w w2) := Lib.hid (MovI.grown hg2 rfl (hl1.out.alloc hl1.out.size _) (by rcases hor2 with e | e; exact .inl e; have := hl1.out.size; exact .inr (by omega))); obtain ⟨c6', f6'⟩ := RI2.cell5 hx2.out) | (go_simp; go_wp2_with (go_at_call 228; refine (HX.out _).mono ?_; rintro e w1 ⟨rfl, hb1⟩; have hl1 : Hid (Below w.heap.size w w1) := Lib.hid ((Below.refl _ _).drew.trans hb1); have H1 := Lib.hid (H0.out.below hl1.out); have hg1 := H1.out.lt.1; have hown1 : w1.ownsRow B 34 7 o out.length (out.flatMap evC) := H1.out.own; have hgB := H1.out.gB; have hBz := H1.out.bz; have hnew : (w1.alloc (.cells #[.int .i64 k, .int .i64 kf, .int .u64 kb, .int .i64 kl, .string kt, .int .i64 kc, .int .i64 kp] 34)).heap[w1.heap.size]? = some (.cells #[.int .i64 k, .int .i64 kf, .int .u64 kb, .int .i64 kl, .string kt, .int .i64 kc, .int .i64 kp] 34 (0, 0)) := heap_alloc_new _ _; obtain ⟨⟨d0, d1, d2, d3, d4, d5⟩, e5, _⟩ := H1.out.cells)))
  all_goals
    go_wp2_with fail
    go_end0
    exact ⟨rfl, _, RI2.told hx2.out hown2, hm2.out.setG _ _⟩
end Go.Proofs.YtpkofbdfnbpfpaaGreat.Num


/-
  The program's reader of messages: a number of a field is read and told.
-/
namespace Go.Proofs.YtpkofbdfnbpfpaaGreat.Num
open Go.RowKit Go.Proofs
set_option linter.unusedVariables false
set_option linter.unusedSimpArgs false
/-- How a method of the reader ends: the failure is answered, the rest lies in the reader. -/
def PostI (g bs bp L B : Nat) (u : Value) (Rt Mo : Int) (sch : List RM) (D : Int) (s : ByteArray) (o : Value) (M : RdM) (w : World) (e : Ending) (w' : World) : Prop :=
  ∃ o' p', e = .returned (evV M.fail) ∧ RI w' g bs bp L B u Rt Mo sch D s o' p' M.out ∧ MovI g bp o o' w w' ∧ (M.fail = zeroE → p' = M.place) ∧ (M.fail = zeroE ∨ ∃ c a, M.fail = failE c a)
theorem failE_ne (c a : Int) : failE c a ≠ zeroE := fun h => by
  have e : (10 : Int) = 0 := congrArg Ev.kind h
  omega
section
variable {g bs bp L B p q : Nat} {o o' u : Value} {w w' : World} {sch : List RM} {D Rt Mo : Int} {s : ByteArray} {out : List Ev} {M : RdM}
theorem PostI.bad {c a : Int} (hM : M = ⟨q, out, failE c a⟩) (h : RI w' g bs bp L B u Rt Mo sch D s o' p out) (hm : MovI g bp o o' w w') : PostI g bs bp L B u Rt Mo sch D s o M w (.returned (.agg #[.int .i64 10, .int .i64 0, .int .u64 0, .int .i64 0, .string ⟨#[]⟩, .int .i64 c, .int .i64 a])) w' := by
  subst hM
  exact ⟨o', p, rfl, h, hm, fun e => absurd e (failE_ne c a), .inr ⟨c, a, rfl⟩⟩
theorem PostI.good (hM : M = ⟨p, out, zeroE⟩) (h : RI w' g bs bp L B u Rt Mo sch D s o' p out) (hm : MovI g bp o o' w w') : PostI g bs bp L B u Rt Mo sch D s o M w (.returned (.agg #[.int .i64 0, .int .i64 0, .int .u64 0, .int .i64 0, .string ⟨#[]⟩, .int .i64 0, .int .i64 0])) w' := by
  subst hM
  exact ⟨o', p, rfl, h, hm, fun _ => rfl, .inl rfl⟩
end
theorem term_zero (w : World) : Calls Tryz.prog 99 #[.agg #[.int .i64 0, .int .i64 0, .int .u64 0, .int .i64 0, .string ⟨#[]⟩, .int .i64 0, .int .i64 0]] w fun x w' => x = .returned (.bool false) ∧ Below w.heap.size w w' := implTerminal_any zeroE w
theorem term_fail (c a : Int) (w : World) : Calls Tryz.prog 99 #[.agg #[.int .i64 10, .int .i64 0, .int .u64 0, .int .i64 0, .string ⟨#[]⟩, .int .i64 c, .int .i64 a]] w fun x w' => x = .returned (.bool true) ∧ Below w.heap.size w w' := implTerminal_any (failE c a) w
theorem Box.fresh2R {w : World} {xs ys : Array Value} {t v : TypeId} : Box ((w.alloc (.cells xs t)).alloc (.cells ys v)) (w.heap.size + 1) ys.toList := by
  have h := Box.fresh (w.alloc (.cells xs t)) ys v
  rwa [show (w.alloc (.cells xs t)).heap.size = w.heap.size + 1 by simp] at h
theorem Box.fiveR {w : World} {g : Nat} {a b c d e : Value} (hx : Box w g [a, b, c, d, e]) : w.cell? ⟨g, 0, none⟩ = some a ∧ w.cell? ⟨g, 1, none⟩ = some b ∧ w.cell? ⟨g, 2, none⟩ = some c ∧ w.cell? ⟨g, 3, none⟩ = some d ∧ w.cell? ⟨g, 4, none⟩ = some e :=
  ⟨(hx.2 0 (by simp)).1, (hx.2 1 (by simp)).1, (hx.2 2 (by simp)).1, (hx.2 3 (by simp)).1, (hx.2 4 (by simp)).1⟩
/-- A field of a message that is not known is zero; a known one has a number and a kind. -/
def FOk (f : RF) : Prop := f = zeroF ∨ (1 ≤ f.1 ∧ 1 ≤ f.2.1 ∧ f.2.1 ≤ 8)
set_option maxHeartbeats 8000000 in
set_option maxRecDepth 100000 in
theorem readNumber_any {w : World} {g bs bp L B p : Nat} {u o : Value} {sch : List RM} {D Rt Mo : Int} {s : ByteArray} {out : List Ev} (h : RI w g bs bp L B u Rt Mo sch D s o p out) (f : RF) (hf : FOk f) (x E : Int) (hx : x = 0 ∨ x = 1 ∨ x = 5) (hE : (p : Int) ≤ E ∧ E ≤ 9223372036854775807) (hs : s.size ≤ 281474976710656) (hn : out.length ≤ 1048576000) :
    Calls Tryz.prog 138 #[.pointer (some ⟨g, 0, none⟩), fieldV f, .int .i64 x, .int .i64 E] w (PostI g bs bp L B u Rt Mo sch D s o (rdNum s f x E ⟨p, out, zeroE⟩) w) := by
  obtain ⟨i0, hi, hz0, hz1, hz2⟩ := info_parts info_event
  have HN : Hid (∀ w, RI w g bs bp L B u Rt Mo sch D s o p out → Calls Tryz.prog 94 #[.int .i64 x, .int .i64 E, .pointer (some ⟨bs, 0, none⟩), .pointer (some ⟨bp, 0, none⟩)] w fun e w' =>
      e = .returned (.tuple #[.int .u64 (rdRaw s x E ⟨p, out, zeroE⟩).1, evV (rdRaw s x E ⟨p, out, zeroE⟩).2.fail]) ∧ RI w' g bs bp L B u Rt Mo sch D s o (rdRaw s x E ⟨p, out, zeroE⟩).2.place out ∧ MovI g bp o o w w') := Lib.hid fun w h => number_any h x E hx hE hs
  have HC := Lib.hid (numR_cases (E := E) (out := out) hx h.inn)
  have HNe : Hid (∀ (U : Nat) (w : World), Calls Tryz.prog 169 #[fieldV f, .int .u64 U] w fun e w' => e = .returned (evV (numE f U)) ∧ Below w.heap.size w w') := Lib.hid fun U w => implNumEvent_any f U w
  unfold rdNum
  generalize rdRaw s x E ⟨p, out, zeroE⟩ = Q at HN HC ⊢
  obtain ⟨M, hM⟩ : ∃ M, rdTold f Q = M := ⟨_, rfl⟩
  rw [hM]
  have HM := Lib.hid hM
  clear hM
  have HF := Lib.hid hf
  obtain ⟨A1, A2, A3, A4, A5⟩ := f
  unfold fieldV at HNe ⊢
  simp only at HNe ⊢
  have hz := h.lt
  have hb2 : Below w.heap.size w ((w.alloc (.cells #[.int .i64 A1, .int .i64 A2, .bool A3, .bool A4, .int .i64 A5] 117)).alloc (.cells #[.int .i64 0, .int .i64 0, .int .u64 0, .int .i64 0, .string ⟨#[]⟩, .int .i64 0, .int .i64 0] 34)) := ((Below.refl _ _).alloc (Nat.le_refl _) _).alloc (by simp) _
  have H0 := Lib.hid (h.below hb2)
  have hm0 : MovI g bp o o w _ := .of_below hb2
  have hbf := (Box.fresh w #[.int .i64 A1, .int .i64 A2, .bool A3, .bool A4, .int .i64 A5] 117).alloc (.cells #[.int .i64 0, .int .i64 0, .int .u64 0, .int .i64 0, .string ⟨#[]⟩, .int .i64 0, .int .i64 0] 34)
  have hbr : Box ((w.alloc (.cells #[.int .i64 A1, .int .i64 A2, .bool A3, .bool A4, .int .i64 A5] 117)).alloc (.cells #[.int .i64 0, .int .i64 0, .int .u64 0, .int .i64 0, .string ⟨#[]⟩, .int .i64 0, .int .i64 0] 34)) (w.heap.size + 1) [.int .i64 0, .int .i64 0, .int .u64 0, .int .i64 0, .string ⟨#[]⟩, .int .i64 0, .int .i64 0] := Box.fresh2R
  have Hlf := Lib.hid (h.fresh (Nat.le_refl w.heap.size))
  have Hlr := Lib.hid (h.fresh (Nat.le_succ w.heap.size))
  obtain ⟨⟨c0, c1, c2, c3, c4, c5⟩, f5, _⟩ := H0.out.cells
  have hgz := H0.out.lt.1
  clear h
  go_enter Tryz.func138, Tryz.ntmps138
  unfold nuF at c3
  go_wp2_with fail
  refine (HN.out _ H0.out).mono ?_
  have hs0 : w.heap.size + 1 < ((w.alloc (.cells #[.int .i64 A1, .int .i64 A2, .bool A3, .bool A4, .int .i64 A5] 117)).alloc (.cells #[.int .i64 0, .int .i64 0, .int .u64 0, .int .i64 0, .string ⟨#[]⟩, .int .i64 0, .int .i64 0] 34)).heap.size := hbr.lt
  have hs1 := hbf.lt
  generalize (w.alloc (.cells #[.int .i64 A1, .int .i64 A2, .bool A3, .bool A4, .int .i64 A5] 117)).alloc (.cells #[.int .i64 0, .int .i64 0, .int .u64 0, .int .i64 0, .string ⟨#[]⟩, .int .i64 0, .int .i64 0] 34) = w1 at H0 hm0 hbf hbr hs0 hs1 ⊢
  rintro e w2 ⟨rfl, h2, hm2⟩
  have hbf2 := hm2.keep hbf Hlf.out
  have hbr2 := hm2.keep hbr Hlr.out
  have hm := hm0.trans hm2
  clear c0 c1 c2 c3 c4 c5 f5 hgz H0 hm0 hm2 hbf hbr hs0 hs1 hb2
  have hzz := h2.bz
  generalize hgf : w.heap.size = gf at hbf2 hbr2 Hlf Hlr
  have hgfz := hbf2.lt
  have hgrz := hbr2.lt
  have hgg := h2.lt.1
  rcases HC.out with ⟨v, a, c, hc, _, rfl⟩ | ⟨U, P, _, rfl, hP1, hP2, hP3, hU⟩
  · simp only at h2 ⊢
    have HM2 : Hid (M = ⟨p, out, failE c a⟩) := Lib.hid (by rw [← HM.out]; unfold rdTold; rw [if_neg (by intro h; exact absurd h.1 (by show ¬ (10 : Int) = 0; decide))])
    rw [fail_evV]
    have H2 := Lib.hid h2
    obtain ⟨⟨r0, r1, r2, r3, r4, r5, r6⟩, s0, s1, s2, s3, s4, s5, s6⟩ := hbr2.sevenE
    clear h2 HC HN HNe HM
    go_wp2_with fail
    refine (term_fail c a _).mono ?_
    rintro e w3 ⟨rfl, hb3⟩
    have hl3 := from_alloc hb3
    have H3 := Lib.hid (H2.out.below hl3)
    have hm3 := hm.trans (.of_below hl3)
    have hbr3 := hbr2.below hl3 hgrz
    have hbt3 := (Box.fresh w2 #[.int .i64 10, .int .i64 0, .int .u64 0, .int .i64 0, .string ⟨#[]⟩, .int .i64 c, .int .i64 a] 34).below hb3 (Box.fresh _ _ _).lt
    clear r0 r1 r2 r3 r4 r5 r6 s0 s1 s2 s3 s4 s5 s6 hb3 hl3 hbr2 hbf2 H2 hm
    generalize w2.heap.size = gt at hbt3 ⊢
    have hzr := hbr3.lt
    have hzt := hbt3.lt
    obtain ⟨⟨r0, r1, r2, r3, r4, r5, r6⟩, s0, s1, s2, s3, s4, s5, s6⟩ := hbr3.sevenE
    obtain ⟨⟨q0, q1, q2, q3, q4, q5, q6⟩, _⟩ := hbt3.sevenE
    go_wp2_with fail
    refine bodyPost_ret (v := .agg #[.int .i64 10, .int .i64 0, .int .u64 0, .int .i64 0, .string ⟨#[]⟩, .int .i64 c, .int .i64 a]) (by simp [results, Tryz.results138, go_sem, hzr, r0, r1, r2, r3, r4, r5, r6]) rfl ?_
    refine PostI.bad HM2.out (o' := o) (p := p) ?_ ?_
    · repeat (first | with_reducible exact H3.out | refine RI.loc ?_ Hlr.out _ _)
    · repeat (first | with_reducible exact hm3 | refine MovI.setX ?_ (Nat.le_of_lt (by omega)) _ _)
  · simp only at h2 ⊢
    rw [zero_evV]
    have H2 := Lib.hid h2
    obtain ⟨⟨r0, r1, r2, r3, r4, r5, r6⟩, s0, s1, s2, s3, s4, s5, s6⟩ := hbr2.sevenE
    rcases HF.out with hf | ⟨hf1, _⟩
    · injection hf with e1 e2
      injection e2 with e2 e3
      injection e3 with e3 e4
      injection e4 with e4 e5
      subst e1; subst e2; subst e3; subst e4; subst e5
      have HM2 : Hid (M = ⟨P, out, zeroE⟩) := Lib.hid (by rw [← HM.out]; unfold rdTold; rw [if_neg (by intro h; exact absurd h.2 (by show ¬ (0 : Int) < 0; decide))])
      clear h2 HC HN HNe HM
      go_wp2_with fail
      refine (term_zero _).mono ?_
      rintro e w3 ⟨rfl, hb3⟩
      have hl3 := from_alloc hb3
      have H3 := Lib.hid (H2.out.below hl3)
      have hm3 := hm.trans (.of_below hl3)
      have hbr3 := hbr2.below hl3 hgrz
      have hbf3 := hbf2.below hl3 hgfz
      have hbt3 := (Box.fresh w2 #[.int .i64 0, .int .i64 0, .int .u64 0, .int .i64 0, .string ⟨#[]⟩, .int .i64 0, .int .i64 0] 34).below hb3 (Box.fresh _ _ _).lt
      clear r0 r1 r2 r3 r4 r5 r6 s0 s1 s2 s3 s4 s5 s6 hb3 hl3 hbr2 hbf2 H2 hm
      generalize w2.heap.size = gt at hbt3 ⊢
      have hzr := hbr3.lt
      have hzt := hbt3.lt
      have hzf := hbf3.lt
      obtain ⟨⟨r0, r1, r2, r3, r4, r5, r6⟩, s0, s1, s2, s3, s4, s5, s6⟩ := hbr3.sevenE
      obtain ⟨⟨q0, q1, q2, q3, q4, q5, q6⟩, _⟩ := hbt3.sevenE
      obtain ⟨b0, b1, b2, b3, b4⟩ := hbf3.fiveR
      go_wp2_with fail
      refine bodyPost_ret (v := .agg #[.int .i64 0, .int .i64 0, .int .u64 0, .int .i64 0, .string ⟨#[]⟩, .int .i64 0, .int .i64 0]) (by simp [results, Tryz.results138, go_sem, hzr, r0, r1, r2, r3, r4, r5, r6]) rfl ?_
      refine PostI.good HM2.out (o' := o) ?_ ?_
      · repeat (first | with_reducible exact H3.out | refine RI.loc ?_ Hlr.out _ _)
      · repeat (first | with_reducible exact hm3 | refine MovI.setX ?_ (Nat.le_of_lt (by omega)) _ _)
    · have HM2 : Hid (M = ⟨P, out ++ [numE (A1, A2, A3, A4, A5) U], zeroE⟩) := Lib.hid (by rw [← HM.out]; unfold rdTold; rw [if_pos ⟨rfl, by show 0 < A1; exact hf1⟩]; rfl)
      have h1b : (A1 == 0) = false := neI (by have : 1 ≤ A1 := hf1; omega)
      have HNu := Lib.hid (HNe.out U)
      have Hlt := Lib.hid (h2.fresh (Nat.le_refl w2.heap.size))
      generalize numE (A1, A2, A3, A4, A5) U = xx at HNu HM2
      obtain ⟨k, kf, kb, kl, kt, kc, kp⟩ := xx
      unfold evV at HNu
      simp only at HNu
      clear h2 HC HN HM hf1 HNe
      go_wp2_with fail
      refine (term_zero _).mono ?_
      rintro e w3 ⟨rfl, hb3⟩
      have hl3 := from_alloc hb3
      have H3 := Lib.hid (H2.out.below hl3)
      have hm3 := hm.trans (.of_below hl3)
      have hbr3 := hbr2.below hl3 hgrz
      have hbf3 := hbf2.below hl3 hgfz
      have hbt3 := (Box.fresh w2 #[.int .i64 0, .int .i64 0, .int .u64 0, .int .i64 0, .string ⟨#[]⟩, .int .i64 0, .int .i64 0] 34).below hb3 (Box.fresh _ _ _).lt
      clear r0 r1 r2 r3 r4 r5 r6 s0 s1 s2 s3 s4 s5 s6 hb3 hl3 hbr2 hbf2 H2 hm
      generalize w2.heap.size = gt at hbt3 Hlt ⊢
      have hzr := hbr3.lt
      have hzt := hbt3.lt
      have hzf := hbf3.lt
      obtain ⟨⟨r0, r1, r2, r3, r4, r5, r6⟩, s0, s1, s2, s3, s4, s5, s6⟩ := hbr3.sevenE
      obtain ⟨⟨q0, q1, q2, q3, q4, q5, q6⟩, _⟩ := hbt3.sevenE
      obtain ⟨b0, b1, b2, b3, b4⟩ := hbf3.fiveR
      have Hbr3 := Lib.hid hbr3
      have Hbt3 := Lib.hid hbt3
      have hn1 : ¬ gt = g := Hlt.out.g
      have hn2 : ¬ g = gt := fun e => Hlt.out.g e.symm
      have hn3 : ¬ gf + 1 = g := Hlr.out.g
      have hn4 : ¬ g = gf + 1 := fun e => Hlr.out.g e.symm
      clear hbr3 hbf3 hbt3
      obtain ⟨⟨c0, c1, c2, c3, c4, c5⟩, f5, _⟩ := H3.out.cells
      have hg3 := H3.out.lt.1
      go_wp2_with fail
      go_region_law (first | (refine step_append_lies _ (by rfl) _ _ 31 (by rfl) B 34 i0 _ 7 64 Tryz.underlying31 hi hz0 hz1 hz2 (by rfl) (by omega) o _ _ (by rfl) (World.ownsRow.alloc hown4 _) ⟨w4.heap.size, 0, none⟩ 1 1 (evC ⟨k, kf, kb, kl, kt, kc, kp⟩) (by rfl) (by rfl) (fun j u hj => World.news_of_block hnew4 j u hj) (by intro u hu; simp [evC] at hu; rcases hu with rfl | rfl | rfl | rfl | rfl | rfl | rfl <;> rfl) (by omega) (by unfold maxLen; omega) (by omega) (by simp; omega) (w4.heap.size + 1) (by simp) ?_; intro g' cap' w5 hown5 hg5 hor5 hlt5; have hx5 : Hid (RI2 w5 g bs bp L B u Rt Mo sch D s o P) := Lib.hid (RI2.of (H4.out.alloc _) hg5); have hm5 : Hid (MovI g bp o (.slice (some ⟨g', 0, none⟩) (out.length + 1) cap') w w5) := Lib.hid (hm3.trans (MovI.grown hg5 rfl (hl4.out.alloc hl4.out.size _) (by rcases hor5 with e | e; exact .inl e; have := hl4.out.size; exact .inr (by omega)))); have hbt5 := (Hbt4.out.alloc (.cells #[.int .i64 k, .int .i64 kf, .int .u64 kb, .int .i64 kl, .string kt, .int .i64 kc, .int .i64 kp] 34)).grownB hg5 Hlt.out.apart; have hbr5 := (Hbr4.out.alloc (.cells #[.int .i64 k, .int .i64 kf, .int .u64 kb, .int .i64 kl, .string kt, .int .i64 kc, .int .i64 kp] 34)).grownB hg5 Hlr.out.apart; have hlt5' := hx5.out.box.lt; have hzr5 := hbr5.lt; obtain ⟨⟨q0, q1, q2, q3, q4, q5, q6⟩, _⟩ := hbt5.sevenE; obtain ⟨⟨r0, r1, r2, r3, r4, r5, r6⟩, s0, s1, s2, s3, s4, s5, s6⟩ := hbr5.sevenE; clear hbt5 hbr5; obtain ⟨c6', f6'⟩ := RI2.cell5 hx5.out) | (go_simp; go_wp2_with (go_at_call 169; refine (HNu.out _).mono ?_; rintro e w4 ⟨rfl, hb4⟩; have hl4 : Hid (Below w3.heap.size w3 w4) := Lib.hid ((Below.refl _ _).drew.trans hb4); have H4 := Lib.hid (H3.out.below hl4.out); have hg4 := H4.out.lt.1; have hown4 : w4.ownsRow B 34 7 o out.length (out.flatMap evC) := H4.out.own; have hgB4 := H4.out.gB; have hBz4 := H4.out.bz; have Hbt4 := Lib.hid (Hbt3.out.below hl4.out hzt); have Hbr4 := Lib.hid (Hbr3.out.below hl4.out hzr); have hnew4 : (w4.alloc (.cells #[.int .i64 k, .int .i64 kf, .int .u64 kb, .int .i64 kl, .string kt, .int .i64 kc, .int .i64 kp] 34)).heap[w4.heap.size]? = some (.cells #[.int .i64 k, .int .i64 kf, .int .u64 kb, .int .i64 kl, .string kt, .int .i64 kc, .int .i64 kp] 34 (0, 0)) := heap_alloc_new _ _; clear hb4; obtain ⟨⟨d0, d1, d2, d3, d4, d5⟩, e5, _⟩ := H4.out.cells)))
      all_goals
        have Hgood : Hid (RI (w5.setCell ⟨g, 7, none⟩ (.slice (some ⟨g', 0, none⟩) (out.length + 1) cap')) g bs bp L B u Rt Mo sch D s (.slice (some ⟨g', 0, none⟩) (out.length + 1) cap') P (out ++ [⟨k, kf, kb, kl, kt, kc, kp⟩])) := Lib.hid (RI2.told hx5.out hown5)
        have Hmov := Lib.hid (hm5.out.setG 7 (.slice (some ⟨g', 0, none⟩) (out.length + 1) cap'))
        have Hlr5 : Hid (Loc g bs bp L (gf + 1) (.slice (some ⟨g', 0, none⟩) (out.length + 1) cap')) := Lib.hid ⟨Hlr.out.g, Hlr.out.s, Hlr.out.p, Hlr.out.l, fun k hk => by
          have e2 : g' = k := by simpa [Value.ownBlock] using hk
          rcases hor5 with e | e
          · exact fun e3 => Hlr.out.o k (by rw [← e2]; exact e) e3
          · have := hl4.out.size; omega⟩
        clear hown5 hg5 hor5
        go_wp2_with fail
        refine bodyPost_ret (v := .agg #[.int .i64 0, .int .i64 0, .int .u64 0, .int .i64 0, .string ⟨#[]⟩, .int .i64 0, .int .i64 0]) (by simp [results, Tryz.results138, go_sem, hzr5, hn3, hn4, r0, r1, r2, r3, r4, r5, r6]) rfl ?_
        refine PostI.good HM2.out (o' := .slice (some ⟨g', 0, none⟩) (out.length + 1) cap') ?_ ?_
        · repeat (first | with_reducible exact Hgood.out | refine RI.loc ?_ Hlr5.out _ _)
        · repeat (first | with_reducible exact Hmov.out | refine MovI.setX ?_ (Nat.le_of_lt (by omega)) _ _)
end Go.Proofs.YtpkofbdfnbpfpaaGreat.Num

