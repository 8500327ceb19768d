/-
  Several texts in one: ReadI.
-/
import Derived.Test.YtpkofbdfnbpfpaaGreatXReadX
import Derived.Laws.EntriesVeiled

/-
  The walk of the program's ReadMsg.
-/
namespace Go.Proofs.YtpkofbdfnbpfpaaGreat.Num
open Go.RowKit Go.Proofs
set_option linter.unusedVariables false
set_option linter.unusedSimpArgs false
theorem Box.eightR {w : World} {x : Nat} {a b c d e f g h : Value} (hx : Box w x [a, b, c, d, e, f, g, h]) : (w.cell? ⟨x, 0, none⟩ = some a ∧ w.cell? ⟨x, 1, none⟩ = some b ∧ w.cell? ⟨x, 2, none⟩ = some c ∧ w.cell? ⟨x, 3, none⟩ = some d ∧ w.cell? ⟨x, 4, none⟩ = some e ∧ w.cell? ⟨x, 5, none⟩ = some f ∧ w.cell? ⟨x, 6, none⟩ = some g ∧ w.cell? ⟨x, 7, none⟩ = some h) ∧ w.frozen? ⟨x, 0, none⟩ = false ∧ w.frozen? ⟨x, 1, none⟩ = false ∧ w.frozen? ⟨x, 2, none⟩ = false ∧ w.frozen? ⟨x, 3, none⟩ = false ∧ w.frozen? ⟨x, 4, none⟩ = false ∧ w.frozen? ⟨x, 5, none⟩ = false ∧ w.frozen? ⟨x, 6, none⟩ = false ∧ w.frozen? ⟨x, 7, none⟩ = false :=
  ⟨⟨(hx.2 0 (by simp)).1, (hx.2 1 (by simp)).1, (hx.2 2 (by simp)).1, (hx.2 3 (by simp)).1, (hx.2 4 (by simp)).1, (hx.2 5 (by simp)).1, (hx.2 6 (by simp)).1, (hx.2 7 (by simp)).1⟩, (hx.2 0 (by simp)).2, (hx.2 1 (by simp)).2, (hx.2 2 (by simp)).2, (hx.2 3 (by simp)).2, (hx.2 4 (by simp)).2, (hx.2 5 (by simp)).2, (hx.2 6 (by simp)).2, (hx.2 7 (by simp)).2⟩
theorem inputAt_any (s : ByteArray) (a : Int) (w : World) : Calls Tryz.prog 63 #[.string s, .int .i64 a] w fun e w' => e = .returned (.agg #[plF (w.heap.size + 1), nuF w.heap.size (w.heap.size + 1), byF w.heap.size (w.heap.size + 1)]) ∧ Below w.heap.size w w' ∧ Box w' w.heap.size [.string s] ∧ Box w' (w.heap.size + 1) [.int .i64 a] := by
  unfold plF nuF byF
  go_enter Tryz.func63, Tryz.ntmps63
  go_wp2_with fail
  refine bodyPost_ret (v := .agg #[.func (.func 93) #[] #[.pointer (some ⟨w.heap.size + 1, 0, none⟩)], .func (.func 94) #[] #[.pointer (some ⟨w.heap.size, 0, none⟩), .pointer (some ⟨w.heap.size + 1, 0, none⟩)], .func (.func 97) #[] #[.pointer (some ⟨w.heap.size + 1, 0, none⟩), .pointer (some ⟨w.heap.size, 0, none⟩)]]) (by simp [results, Tryz.results63, go_sem]) rfl ?_
  refine ⟨rfl, ?_, ?_, ?_⟩
  · repeat (first | with_reducible exact Below.refl _ _ | refine Below.setCell ?_ (by simp) _ | refine Below.alloc ?_ (by first | omega | (simp <;> omega)) _)
  · repeat (first | exact Box.fresh _ _ _ | refine Box.other ?_ (by show _ ≠ _; omega) _ | refine Box.alloc ?_ _)
  · repeat (first | exact Box.fresh2R | refine Box.other ?_ (by show _ ≠ _; omega) _ | refine Box.alloc ?_ _)
theorem MovI.belowL {g bp C : Nat} {o' : Value} {w1 w2 : World} (h : MovI g bp (.slice none 0 0) o' w1 w2) (hg : C ≤ g) (hp : C ≤ bp) (hC : C ≤ w1.heap.size) : Below C w1 w2 :=
  ⟨h.os, h.tape, h.output, h.size, fun k hk => h.block k (by omega) (by omega) (by omega) (by simp [Value.ownBlock])⟩
section
variable {w1 w3 : World} {C g bs bp N : Nat} {u : Value} {sch : List RM} {D Rt Mo : Int} {s : ByteArray}
theorem riA (hb : Below w1.heap.size w1 w3) (hs3 : Box w3 bs [.string s]) (hp3 : Box w3 bp [.int .i64 N]) (h1 : w1.heap.size ≤ bs) (h2 : w1.heap.size ≤ bp) (h3 : bs ≠ bp) (hC : C ≤ w1.heap.size) (hm : MsgsAt w3 (· < C) u sch) (hN : N ≤ s.size) :
    RI (w3.alloc (.cells #[u, .int .i64 Rt, .int .i64 D, .int .i64 Mo, plF bp, nuF bs bp, byF bs bp, .slice none 0 0] 84)) w3.heap.size bs bp C (w3.alloc (.cells #[u, .int .i64 Rt, .int .i64 D, .int .i64 Mo, plF bp, nuF bs bp, byF bs bp, .slice none 0 0] 84)).heap.size u Rt Mo sch D s (.slice none 0 0) N [] := by
  have k1 := hs3.lt
  have k2 := hp3.lt
  have k3 := hb.size
  refine ⟨Box.fresh _ _ _, hs3.alloc _, hp3.alloc _, OwnE.nil _ _ _, hm.keep (.of_below ((Below.refl w3.heap.size w3).alloc (Nat.le_refl _) _) fun b hb => by have h : b < C := hb; omega) fun _ h => h, hN, by simp, by simp; omega, by simp; omega, by omega, by omega, by omega, by omega, by omega, h3, Nat.le_refl _⟩
theorem riB {z0 z1 z2 z3 z4 z5 z6 z7 : Value} (hg3 : Box w3 g [z0, z1, z2, z3, z4, z5, z6, z7]) (hs3 : Box w3 bs [.string s]) (hp3 : Box w3 bp [.int .i64 N]) (h0 : C ≤ g) (h1 : C ≤ bs) (h2 : C ≤ bp) (h3 : bs ≠ bp) (h4 : g ≠ bs) (h5 : g ≠ bp) (hm : MsgsAt w3 (· < C) u sch) (hN : N ≤ s.size) :
    RI ((((((((w3.setCell ⟨g, 0, none⟩ u).setCell ⟨g, 1, none⟩ (.int .i64 Rt)).setCell ⟨g, 2, none⟩ (.int .i64 D)).setCell ⟨g, 3, none⟩ (.int .i64 Mo)).setCell ⟨g, 4, none⟩ (plF bp)).setCell ⟨g, 5, none⟩ (nuF bs bp)).setCell ⟨g, 6, none⟩ (byF bs bp)).setCell ⟨g, 7, none⟩ (.slice none 0 0)) g bs bp C ((((((((w3.setCell ⟨g, 0, none⟩ u).setCell ⟨g, 1, none⟩ (.int .i64 Rt)).setCell ⟨g, 2, none⟩ (.int .i64 D)).setCell ⟨g, 3, none⟩ (.int .i64 Mo)).setCell ⟨g, 4, none⟩ (plF bp)).setCell ⟨g, 5, none⟩ (nuF bs bp)).setCell ⟨g, 6, none⟩ (byF bs bp)).setCell ⟨g, 7, none⟩ (.slice none 0 0)).heap.size u Rt Mo sch D s (.slice none 0 0) N [] := by
  have k0 := hg3.lt
  have k1 := hs3.lt
  have k2 := hp3.lt
  have hng : ¬ g < C := by omega
  refine ⟨?_, ?_, ?_, OwnE.nil _ _ _, ?_, hN, by simpa [World.setCell] using k0, by simpa [World.setCell] using k1, by simpa [World.setCell] using k2, h0, h1, h2, h4, h5, h3, Nat.le_refl _⟩
  · have := ((((((((hg3.set 0 u).set 1 (.int .i64 Rt)).set 2 (.int .i64 D)).set 3 (.int .i64 Mo)).set 4 (plF bp)).set 5 (nuF bs bp)).set 6 (byF bs bp)).set 7 (.slice none 0 0))
    exact this
  · exact ((((((((hs3.other (a := ⟨g, 0, none⟩) h4 _).other (a := ⟨g, 1, none⟩) h4 _).other (a := ⟨g, 2, none⟩) h4 _).other (a := ⟨g, 3, none⟩) h4 _).other (a := ⟨g, 4, none⟩) h4 _).other (a := ⟨g, 5, none⟩) h4 _).other (a := ⟨g, 6, none⟩) h4 _).other (a := ⟨g, 7, none⟩) h4 _)
  · exact ((((((((hp3.other (a := ⟨g, 0, none⟩) h5 _).other (a := ⟨g, 1, none⟩) h5 _).other (a := ⟨g, 2, none⟩) h5 _).other (a := ⟨g, 3, none⟩) h5 _).other (a := ⟨g, 4, none⟩) h5 _).other (a := ⟨g, 5, none⟩) h5 _).other (a := ⟨g, 6, none⟩) h5 _).other (a := ⟨g, 7, none⟩) h5 _)
  · exact ((((((((hm.keep (.of_set (p := ⟨g, 0, none⟩) _ hng) fun _ h => h).keep (.of_set (p := ⟨g, 1, none⟩) _ hng) fun _ h => h).keep (.of_set (p := ⟨g, 2, none⟩) _ hng) fun _ h => h).keep (.of_set (p := ⟨g, 3, none⟩) _ hng) fun _ h => h).keep (.of_set (p := ⟨g, 4, none⟩) _ hng) fun _ h => h).keep (.of_set (p := ⟨g, 5, none⟩) _ hng) fun _ h => h).keep (.of_set (p := ⟨g, 6, none⟩) _ hng) fun _ h => h).keep (.of_set (p := ⟨g, 7, none⟩) _ hng) fun _ h => h)
end
theorem planB_schema {r : List RM} {A B C : Int} (h : planB r A B C = true) : SchemaP r := by
  unfold planB at h
  simp only [Bool.and_eq_true] at h
  have h1 := h.1
  unfold schemaB at h1
  exact @of_decide_eq_true _ (Classical.propDecidable _) h1
set_option maxHeartbeats 8000000 in
set_option maxRecDepth 100000 in
theorem implReadMsg_any (u : Value) (sch : List RM) (A B C shape a E deep : Int) (s : ByteArray) (w : World) (hu : MsgsAt w (· < w.heap.size) u sch) (hsch : Small sch) (hs : s.size ≤ 200000000)
    (hb : (-9223372036854775808 ≤ shape ∧ shape ≤ 9223372036854775807) ∧ (-9223372036854775808 ≤ a ∧ a ≤ 9223372036854775807) ∧ (-9223372036854775808 ≤ E ∧ E ≤ 9223372036854775807) ∧ (-9223372036854775808 ≤ deep ∧ deep ≤ 9223372036854775807)) :
    Calls Tryz.prog 18 #[planV u A B C, .int .i64 shape, .string s, .int .i64 a, .int .i64 E, .int .i64 deep] w fun e w' => ∃ v cap, e = .returned (.tuple #[.slice v (readR sch A B C shape s a E deep).1.length cap, evV (readR sch A B C shape s a E deep).2]) ∧ OwnE w' w.heap.size 34 (.slice v (readR sch A B C shape s a E deep).1.length cap) (readR sch A B C shape s a E deep).1 ∧ Below w.heap.size w w' := by
  obtain ⟨Z, hZ⟩ : ∃ Z, readR sch A B C shape s a E deep = Z := ⟨_, rfl⟩
  rw [hZ]
  have HZ := Lib.hid hZ
  have Hu := Lib.hid hu
  obtain ⟨ua, uc, rfl⟩ := MsgsAt.len hu
  unfold planV
  have hsl := hsch.1
  have hbx := (Box.fresh w #[.slice ua sch.length uc, .int .i64 A, .int .i64 B, .int .i64 C] 28).alloc (.cells #[.int .i64 0, .int .i64 0, .int .u64 0, .int .i64 0, .string ⟨#[]⟩, .int .i64 0, .int .i64 0] 34)
  have hbr : Box ((w.alloc (.cells #[.slice ua sch.length uc, .int .i64 A, .int .i64 B, .int .i64 C] 28)).alloc (.cells #[.int .i64 0, .int .i64 0, .int .u64 0, .int .i64 0, .string ⟨#[]⟩, .int .i64 0, .int .i64 0] 34)) (w.heap.size + 1) [.int .i64 0, .int .i64 0, .int .u64 0, .int .i64 0, .string ⟨#[]⟩, .int .i64 0, .int .i64 0] := Box.fresh2R
  have hb0 : Below w.heap.size w ((w.alloc (.cells #[.slice ua sch.length uc, .int .i64 A, .int .i64 B, .int .i64 C] 28)).alloc (.cells #[.int .i64 0, .int .i64 0, .int .u64 0, .int .i64 0, .string ⟨#[]⟩, .int .i64 0, .int .i64 0] 34)) := ((Below.refl _ _).alloc (Nat.le_refl _) _).alloc (by simp) _
  have HPl := Lib.hid (implPlanOk_any (.slice ua sch.length uc) sch A B C ((w.alloc (.cells #[.slice ua sch.length uc, .int .i64 A, .int .i64 B, .int .i64 C] 28)).alloc (.cells #[.int .i64 0, .int .i64 0, .int .u64 0, .int .i64 0, .string ⟨#[]⟩, .int .i64 0, .int .i64 0] 34)) (Hu.out.keep (.of_below hb0 fun _ h => h) fun b hb => by show b < ((w.alloc (.cells #[.slice ua sch.length uc, .int .i64 A, .int .i64 B, .int .i64 C] 28)).alloc (.cells #[.int .i64 0, .int .i64 0, .int .u64 0, .int .i64 0, .string ⟨#[]⟩, .int .i64 0, .int .i64 0] 34)).heap.size; have h1 := hb0.size; have h2 : b < w.heap.size := hb; omega) hsch)
  unfold planV at HPl
  have HNo : Hid (rdOkB sch A B C shape s a E deep = false → Z = ([], zeroE)) := Lib.hid fun h => by rw [← HZ.out]; unfold readR; rw [if_neg (by rw [h]; simp)]
  have HYes : Hid (rdOkB sch A B C shape s a E deep = true → Z = ((msgRd s sch B (s.size + 1) shape E deep ⟨a.toNat, [], zeroE⟩).out, (msgRd s sch B (s.size + 1) shape E deep ⟨a.toNat, [], zeroE⟩).fail)) := Lib.hid fun h => by rw [← HZ.out]; unfold readR; rw [if_pos h]
  have Hok : Hid (rdOkB sch A B C shape s a E deep = (planB sch A B C && decide (0 ≤ shape ∧ shape ≤ (sch.length : Int) - 1) && decide (0 ≤ a ∧ a ≤ s.size) && decide (a ≤ E) && decide (1 ≤ deep ∧ deep ≤ B))) := Lib.hid rfl
  clear hZ hu
  go_enter Tryz.func18, Tryz.ntmps18
  go_wp2_with fail
  refine HPl.out.mono ?_
  rintro e w1 ⟨rfl, hb1⟩
  have hbx1 := Lib.hid (hbx.below hb1 hbx.lt)
  have hbr1 := Lib.hid (hbr.below hb1 hbr.lt)
  have hbw := Lib.hid (hb0.trans (hb1.mono hb0.size))
  have hz1 := hbr1.out.lt
  clear hbx hbr hb0 hb1 HPl HZ
  obtain ⟨q0, hq0⟩ : ∃ q0, planB sch A B C = q0 := ⟨_, rfl⟩
  rw [hq0]
  have Hq0 := Lib.hid hq0
  clear hq0
  have p0 : w1.cell? ⟨w.heap.size, 0, none⟩ = some (.slice ua sch.length uc) := (hbx1.out.2 0 (by simp)).1
  have pf0 : w1.frozen? ⟨w.heap.size, 0, none⟩ = false := (hbx1.out.2 0 (by simp)).2
  have p1 : w1.cell? ⟨w.heap.size, 1, none⟩ = some (.int .i64 A) := (hbx1.out.2 1 (by simp)).1
  have pf1 : w1.frozen? ⟨w.heap.size, 1, none⟩ = false := (hbx1.out.2 1 (by simp)).2
  have p2 : w1.cell? ⟨w.heap.size, 2, none⟩ = some (.int .i64 B) := (hbx1.out.2 2 (by simp)).1
  have pf2 : w1.frozen? ⟨w.heap.size, 2, none⟩ = false := (hbx1.out.2 2 (by simp)).2
  have p3 : w1.cell? ⟨w.heap.size, 3, none⟩ = some (.int .i64 C) := (hbx1.out.2 3 (by simp)).1
  have pf3 : w1.frozen? ⟨w.heap.size, 3, none⟩ = false := (hbx1.out.2 3 (by simp)).2
  have pz := hbx1.out.lt
  obtain ⟨⟨x0, x1, x2, x3, x4, x5, x6⟩, xf0, xf1, xf2, xf3, xf4, xf5, xf6⟩ := (hbr1.out).sevenE
  have xz := (hbr1.out).lt
  cases q0 with
  | false =>
    have HZ0 := Lib.hid (HNo.out (by rw [Hok.out]; rw [Hq0.out]; rfl))
    go_wp2_with fail
    refine bodyPost_ret (v := .tuple #[.slice none 0 0, .agg #[.int .i64 0, .int .i64 0, .int .u64 0, .int .i64 0, .string ⟨#[]⟩, .int .i64 0, .int .i64 0]]) (by simp [results, Tryz.results18, go_sem, xz, x0, x1, x2, x3, x4, x5, x6]) rfl ?_
    rw [HZ0.out]
    refine ⟨none, 0, rfl, OwnE.nil _ _ _, ?_⟩
    repeat (first | with_reducible exact hbw.out | with_reducible refine Below.setCell ?_ (Nat.le_succ _) _)
  | true =>
    by_cases hi : 0 ≤ shape ∧ shape < (sch.length : Int)
    · by_cases ha0 : a < 0
      · have HZ0 := Lib.hid (HNo.out (by rw [Hok.out]; rw [show decide (0 ≤ a ∧ a ≤ (s.size : Int)) = false from decide_eq_false (by omega)]; simp))
        go_wp2_with fail
        refine (isIndex_yes _ _ _ hi).mono ?_
        rintro e _ ⟨rfl, rfl⟩
        go_wp2_with fail
        refine bodyPost_ret (v := .tuple #[.slice none 0 0, .agg #[.int .i64 0, .int .i64 0, .int .u64 0, .int .i64 0, .string ⟨#[]⟩, .int .i64 0, .int .i64 0]]) (by simp [results, Tryz.results18, go_sem, xz, x0, x1, x2, x3, x4, x5, x6]) rfl ?_
        rw [HZ0.out]
        refine ⟨none, 0, rfl, OwnE.nil _ _ _, ?_⟩
        repeat (first | with_reducible exact hbw.out | with_reducible refine Below.setCell ?_ (Nat.le_succ _) _)
      · by_cases ha1 : (s.size : Int) < a
        · have HZ0 := Lib.hid (HNo.out (by rw [Hok.out]; rw [show decide (0 ≤ a ∧ a ≤ (s.size : Int)) = false from decide_eq_false (by omega)]; simp))
          go_wp2_with fail
          refine (isIndex_yes _ _ _ hi).mono ?_
          rintro e _ ⟨rfl, rfl⟩
          go_wp2_with fail
          refine bodyPost_ret (v := .tuple #[.slice none 0 0, .agg #[.int .i64 0, .int .i64 0, .int .u64 0, .int .i64 0, .string ⟨#[]⟩, .int .i64 0, .int .i64 0]]) (by simp [results, Tryz.results18, go_sem, xz, x0, x1, x2, x3, x4, x5, x6]) rfl ?_
          rw [HZ0.out]
          refine ⟨none, 0, rfl, OwnE.nil _ _ _, ?_⟩
          repeat (first | with_reducible exact hbw.out | with_reducible refine Below.setCell ?_ (Nat.le_succ _) _)
        · by_cases hE0 : E < a
          · have HZ0 := Lib.hid (HNo.out (by rw [Hok.out]; rw [show decide (a ≤ E) = false from decide_eq_false (by omega)]; simp))
            go_wp2_with fail
            refine (isIndex_yes _ _ _ hi).mono ?_
            rintro e _ ⟨rfl, rfl⟩
            go_wp2_with fail
            refine bodyPost_ret (v := .tuple #[.slice none 0 0, .agg #[.int .i64 0, .int .i64 0, .int .u64 0, .int .i64 0, .string ⟨#[]⟩, .int .i64 0, .int .i64 0]]) (by simp [results, Tryz.results18, go_sem, xz, x0, x1, x2, x3, x4, x5, x6]) rfl ?_
            rw [HZ0.out]
            refine ⟨none, 0, rfl, OwnE.nil _ _ _, ?_⟩
            repeat (first | with_reducible exact hbw.out | with_reducible refine Below.setCell ?_ (Nat.le_succ _) _)
          · by_cases hd0 : deep < 1
            · have HZ0 := Lib.hid (HNo.out (by rw [Hok.out]; rw [show decide (1 ≤ deep ∧ deep ≤ B) = false from decide_eq_false (by omega)]; simp))
              go_wp2_with fail
              refine (isIndex_yes _ _ _ hi).mono ?_
              rintro e _ ⟨rfl, rfl⟩
              go_wp2_with fail
              refine bodyPost_ret (v := .tuple #[.slice none 0 0, .agg #[.int .i64 0, .int .i64 0, .int .u64 0, .int .i64 0, .string ⟨#[]⟩, .int .i64 0, .int .i64 0]]) (by simp [results, Tryz.results18, go_sem, xz, x0, x1, x2, x3, x4, x5, x6]) rfl ?_
              rw [HZ0.out]
              refine ⟨none, 0, rfl, OwnE.nil _ _ _, ?_⟩
              repeat (first | with_reducible exact hbw.out | with_reducible refine Below.setCell ?_ (Nat.le_succ _) _)
            · by_cases hd1 : B < deep
              · have HZ0 := Lib.hid (HNo.out (by rw [Hok.out]; rw [show decide (1 ≤ deep ∧ deep ≤ B) = false from decide_eq_false (by omega)]; simp))
                go_wp2_with fail
                refine (isIndex_yes _ _ _ hi).mono ?_
                rintro e _ ⟨rfl, rfl⟩
                go_wp2_with fail
                refine bodyPost_ret (v := .tuple #[.slice none 0 0, .agg #[.int .i64 0, .int .i64 0, .int .u64 0, .int .i64 0, .string ⟨#[]⟩, .int .i64 0, .int .i64 0]]) (by simp [results, Tryz.results18, go_sem, xz, x0, x1, x2, x3, x4, x5, x6]) rfl ?_
                rw [HZ0.out]
                refine ⟨none, 0, rfl, OwnE.nil _ _ _, ?_⟩
                repeat (first | with_reducible exact hbw.out | with_reducible refine Below.setCell ?_ (Nat.le_succ _) _)
              · have HZ0 := Lib.hid (HYes.out (by rw [Hok.out, Hq0.out, decide_eq_true (show 0 ≤ shape ∧ shape ≤ (sch.length : Int) - 1 by omega), decide_eq_true (show 0 ≤ a ∧ a ≤ (s.size : Int) by omega), decide_eq_true (show a ≤ E by omega), decide_eq_true (show 1 ≤ deep ∧ deep ≤ B by omega)]; rfl))
                have hBB := planB_deep Hq0.out
                have HSP := Lib.hid (planB_schema Hq0.out)
                clear HNo HYes Hok
                obtain ⟨N, rfl⟩ := Int.eq_ofNat_of_zero_le (show 0 ≤ a by omega)
                rw [Int.toNat_natCast] at HZ0
                obtain ⟨Q, hQ⟩ : ∃ Q, msgRd s sch B (s.size + 1) shape E deep ⟨N, [], zeroE⟩ = Q := ⟨_, rfl⟩
                rw [hQ] at HZ0
                have HIn : Hid (∀ w, Calls Tryz.prog 63 #[.string s, .int .i64 N] w fun e w' => e = .returned (.agg #[plF (w.heap.size + 1), nuF w.heap.size (w.heap.size + 1), byF w.heap.size (w.heap.size + 1)]) ∧ Below w.heap.size w w' ∧ Box w' w.heap.size [.string s] ∧ Box w' (w.heap.size + 1) [.int .i64 N]) := Lib.hid fun w => inputAt_any s N w
                have HRM : Hid (∀ g bs bp w2, RI w2 g bs bp w.heap.size w2.heap.size (.slice ua sch.length uc) A C sch B s (.slice none 0 0) N [] → Calls Tryz.prog 64 #[.pointer (some ⟨g, 0, none⟩), .agg #[.int .i64 shape, .int .i64 E, .int .i64 deep]] w2 (PostI g bs bp w.heap.size w2.heap.size (.slice ua sch.length uc) A C sch B s (.slice none 0 0) Q w2)) := Lib.hid fun g bs bp w2 h => by
                  rw [← hQ]
                  exact readMsg_any g bs bp w.heap.size w2.heap.size (.slice ua sch.length uc) A C sch B s hsch HSP.out hBB.2 hs (s.size + 1) shape E deep (.slice none 0 0) N [] w2 h (Nat.zero_le _) (by omega) (by omega) (by omega) (by omega)
                clear hQ
                have Hu1 := Lib.hid (Hu.out.keep (.of_below hbw.out fun _ h => h) (S' := (· < w.heap.size)) fun _ h => h)
                unfold plF nuF byF at HIn
                go_wp2_with fail
                refine (isIndex_yes _ _ _ hi).mono ?_
                rintro e _ ⟨rfl, rfl⟩
                go_wp2_with fail
                obtain ⟨plQ, outQ, ⟨k2, e2f, e2b, e2l, e2t, e2c, e2p⟩⟩ := Q
                unfold PostI evV at HRM
                simp only at HRM
                have hbG := (Box.fresh w1 #[.slice none 0 0, .int .i64 0, .int .i64 0, .int .i64 0, .nilFunc, .nilFunc, .nilFunc, .slice none 0 0] 84).drew
                have hsW : w1.drew.heap.size = w1.heap.size := rfl
                go_cut [14] (fun s14 wx => ∃ g bs bp : Nat, s14 = .pointer (some ⟨g, 0, none⟩) ∧ Hid (RI wx g bs bp w.heap.size wx.heap.size (.slice ua sch.length uc) A C sch B s (.slice none 0 0) N []) ∧ Hid (Below w.heap.size w wx) ∧ Hid (Box wx (w.heap.size + 1) [.int .i64 0, .int .i64 0, .int .u64 0, .int .i64 0, .string ⟨#[]⟩, .int .i64 0, .int .i64 0]) ∧ w.heap.size + 1 < g ∧ w.heap.size + 1 < bs ∧ w.heap.size + 1 < bp)
                case first =>
                  go_region_with (go_at_call 63; refine (HIn.out _).mono ?_; rintro e w3 ⟨rfl, hb3, hs3, hp3⟩; have hl3 : Hid (Below w1.heap.size w1 w3) := Lib.hid (by first | exact (Below.refl w1.heap.size w1).drew.trans hb3 | exact (((Below.refl w1.heap.size w1).drew.alloc (Nat.le_refl _) _).trans (hb3.mono (by simp))) | exact (((Below.refl w1.heap.size w1).alloc (Nat.le_refl _) _).drew.trans (hb3.mono (by simp)))); have hs3 := Lib.hid hs3; have hp3 := Lib.hid hp3; have hbx3 := Lib.hid (hbx1.out.below hl3.out hbx1.out.lt); have hbr3 := Lib.hid (hbr1.out.below hl3.out hbr1.out.lt); (try have hbg3 : Hid (Box w3 w1.heap.size [.slice none 0 0, .int .i64 0, .int .i64 0, .int .i64 0, .nilFunc, .nilFunc, .nilFunc, .slice none 0 0]) := Lib.hid (hbG.below hb3 (by simp)); obtain ⟨⟨q0, q1, q2, q3, q4, q5, q6, q7⟩, t0, t1, t2, t3, t4, t5, t6, t7⟩ := hbg3.out.eightR; have hzg3 := hbg3.out.lt); obtain ⟨d0, d1, d2, d3⟩ := hbx3.out.fourC; have hdz := hbx3.out.lt; clear hb3)
                  all_goals
                    have hW3 : Below w.heap.size w w3 := hbw.out.trans (hl3.out.mono (by omega))
                    have hm3 : MsgsAt w3 (· < w.heap.size) (.slice ua sch.length uc) sch := Hu.out.keep (.of_below hW3 fun _ h => h) fun _ h => h
                    have hNs : N ≤ s.size := by omega
                    go_wp2_with fail
                    go_meet
                    first
                      | (have hs4 : Box w3 (w1.heap.size + 1) [.string s] := by have := hs3.out; simpa using this
                         have hp4 : Box w3 (w1.heap.size + 1 + 1) [.int .i64 N] := by have := hp3.out; simpa using this
                         exact ⟨w1.heap.size, w1.heap.size + 1, w1.heap.size + 1 + 1, rfl, Lib.hid (riB (C := w.heap.size) hbg3.out hs4 hp4 (by omega) (by omega) (by omega) (by omega) (by omega) (by omega) hm3 hNs), Lib.hid ((((((((hW3.setCell (p := ⟨w1.heap.size, 0, none⟩) (show w.heap.size ≤ w1.heap.size by omega) _).setCell (p := ⟨w1.heap.size, 1, none⟩) (show w.heap.size ≤ w1.heap.size by omega) _).setCell (p := ⟨w1.heap.size, 2, none⟩) (show w.heap.size ≤ w1.heap.size by omega) _).setCell (p := ⟨w1.heap.size, 3, none⟩) (show w.heap.size ≤ w1.heap.size by omega) _).setCell (p := ⟨w1.heap.size, 4, none⟩) (show w.heap.size ≤ w1.heap.size by omega) _).setCell (p := ⟨w1.heap.size, 5, none⟩) (show w.heap.size ≤ w1.heap.size by omega) _).setCell (p := ⟨w1.heap.size, 6, none⟩) (show w.heap.size ≤ w1.heap.size by omega) _).setCell (p := ⟨w1.heap.size, 7, none⟩) (show w.heap.size ≤ w1.heap.size by omega) _), Lib.hid ((((((((hbr3.out.other (a := ⟨w1.heap.size, 0, none⟩) (show w1.heap.size ≠ w.heap.size + 1 by omega) _).other (a := ⟨w1.heap.size, 1, none⟩) (show w1.heap.size ≠ w.heap.size + 1 by omega) _).other (a := ⟨w1.heap.size, 2, none⟩) (show w1.heap.size ≠ w.heap.size + 1 by omega) _).other (a := ⟨w1.heap.size, 3, none⟩) (show w1.heap.size ≠ w.heap.size + 1 by omega) _).other (a := ⟨w1.heap.size, 4, none⟩) (show w1.heap.size ≠ w.heap.size + 1 by omega) _).other (a := ⟨w1.heap.size, 5, none⟩) (show w1.heap.size ≠ w.heap.size + 1 by omega) _).other (a := ⟨w1.heap.size, 6, none⟩) (show w1.heap.size ≠ w.heap.size + 1 by omega) _).other (a := ⟨w1.heap.size, 7, none⟩) (show w1.heap.size ≠ w.heap.size + 1 by omega) _), by omega, by omega, by omega⟩)
                      | (have hs4 : Box w3 w1.heap.size [.string s] := hs3.out
                         have hp4 : Box w3 (w1.heap.size + 1) [.int .i64 N] := hp3.out
                         have hz3 := hl3.out.size
                         exact ⟨w3.heap.size, w1.heap.size, w1.heap.size + 1, rfl, Lib.hid (riA (C := w.heap.size) hl3.out hs4 hp4 (by omega) (by omega) (by omega) (by omega) hm3 hNs), Lib.hid (hW3.alloc (by omega) _), Lib.hid (hbr3.out.alloc _), by omega, by omega, by omega⟩)
                case rest =>
                obtain ⟨g, bs, bp, rfl, HR, hbR, hrR, hg1, hs1, hp1⟩ := hcut
                clear hbx1 hbr1 hbw hz1 p0 pf0 p1 pf1 p2 pf2 p3 pf3 pz x0 xf0 x1 xf1 x2 xf2 x3 xf3 x4 xf4 x5 xf5 x6 xf6 xz hbG hsW HIn Hu1
                have hgz := HR.out.lt.1
                have hzw := hbR.out.size
                go_wp2_with fail
                refine (HRM.out g bs bp _ HR.out).mono ?_
                rintro e w4 ⟨o4, p4, rfl, h4, hm4, hp4, hf4⟩
                have hown := h4.own
                obtain ⟨oa, oc, rfl⟩ := hown.slice
                have hl4 : Below (w.heap.size + 1 + 1) wc w4 := hm4.belowL (by omega) (by omega) (by have := hrR.out.lt; omega)
                have hbr4 := Lib.hid (hrR.out.below hl4 (by omega))
                have hb4 := Lib.hid (hbR.out.trans (hl4.mono (by omega)))
                have H4 := Lib.hid h4
                have hsz4 := hm4.size
                clear h4 hm4 hl4 hp4 hf4 HR hbR hrR HRM
                obtain ⟨⟨c0, c1, c2, c3, c4, c5⟩, c5f, _⟩ := (H4.out.alloc (.cells #[.int .i64 k2, .int .i64 e2f, .int .u64 e2b, .int .i64 e2l, .string e2t, .int .i64 e2c, .int .i64 e2p] 34)).cells
                have hgz4 := (H4.out.alloc (.cells #[.int .i64 k2, .int .i64 e2f, .int .u64 e2b, .int .i64 e2l, .string e2t, .int .i64 e2c, .int .i64 e2p] 34)).lt.1
                have hgr : ¬ g = w.heap.size + 1 := by omega
                have hgr2 : ¬ w.heap.size + 1 = g := by omega
                obtain ⟨⟨t0, t1, t2, t3, t4, t5, t6⟩, tf0, tf1, tf2, tf3, tf4, tf5, tf6⟩ := (Box.fresh w4 #[.int .i64 k2, .int .i64 e2f, .int .u64 e2b, .int .i64 e2l, .string e2t, .int .i64 e2c, .int .i64 e2p] 34).sevenE
                have tz := (Box.fresh w4 #[.int .i64 k2, .int .i64 e2f, .int .u64 e2b, .int .i64 e2l, .string e2t, .int .i64 e2c, .int .i64 e2p] 34).lt
                obtain ⟨⟨x0, x1, x2, x3, x4, x5, x6⟩, xf0, xf1, xf2, xf3, xf4, xf5, xf6⟩ := (hbr4.out.alloc (.cells #[.int .i64 k2, .int .i64 e2f, .int .u64 e2b, .int .i64 e2l, .string e2t, .int .i64 e2c, .int .i64 e2p] 34)).sevenE
                have xz := (hbr4.out.alloc (.cells #[.int .i64 k2, .int .i64 e2f, .int .u64 e2b, .int .i64 e2l, .string e2t, .int .i64 e2c, .int .i64 e2p] 34)).lt
                have hown5 := Lib.hid (hown.alloc (.cells #[.int .i64 k2, .int .i64 e2f, .int .u64 e2b, .int .i64 e2l, .string e2t, .int .i64 e2c, .int .i64 e2p] 34))
                have hb5 := Lib.hid (hb4.out.alloc (by omega) (.cells #[.int .i64 k2, .int .i64 e2f, .int .u64 e2b, .int .i64 e2l, .string e2t, .int .i64 e2c, .int .i64 e2p] 34))
                have hox : Hid (∀ q, (Value.slice oa outQ.length oc).ownBlock = some q → q ≠ w.heap.size + 1) := Lib.hid fun q hq => by
                  have h1 := (hown.lt q hq).1
                  omega
                clear hown
                go_wp2_with fail
                generalize hw5 : w4.alloc (.cells #[.int .i64 k2, .int .i64 e2f, .int .u64 e2b, .int .i64 e2l, .string e2t, .int .i64 e2c, .int .i64 e2p] 34) = w5 at c0 c1 c2 c3 c4 c5 c5f hgz4 t0 tf0 t1 tf1 t2 tf2 t3 tf3 t4 tf4 t5 tf5 t6 tf6 tz x0 xf0 x1 xf1 x2 xf2 x3 xf3 x4 xf4 x5 xf5 x6 xf6 xz hown5 hb5 ⊢
                clear hw5
                have hgt1 : ¬ w4.heap.size = w.heap.size + 1 := by have := hbr4.out.lt; omega
                have hgt2 : ¬ w.heap.size + 1 = w4.heap.size := by have := hbr4.out.lt; omega
                generalize w4.heap.size = gt at t0 tf0 t1 tf1 t2 tf2 t3 tf3 t4 tf4 t5 tf5 t6 tf6 tz hgt1 hgt2 ⊢
                go_region
                all_goals
                  go_wp2_with fail
                  refine bodyPost_ret (v := .tuple #[.slice oa outQ.length oc, .agg #[.int .i64 k2, .int .i64 e2f, .int .u64 e2b, .int .i64 e2l, .string e2t, .int .i64 e2c, .int .i64 e2p]]) (by simp [results, Tryz.results18, go_sem, xz, x0, x1, x2, x3, x4, x5, x6]) rfl ?_
                  rw [HZ0.out]
                  refine ⟨oa, oc, rfl, ?_, ?_⟩
                  · repeat (first | with_reducible exact hown5.out.wide (by omega) | with_reducible refine OwnE.drew ?_ | with_reducible refine OwnE.apart ?_ hox.out _)
                  · repeat (first | with_reducible exact hb5.out | with_reducible refine Below.drew ?_ | with_reducible refine Below.setCell ?_ (Nat.le_succ _) _)
    · have HZ0 := Lib.hid (HNo.out (by rw [Hok.out]; rw [show decide (0 ≤ shape ∧ shape ≤ (sch.length : Int) - 1) = false from decide_eq_false (by omega)]; simp))
      go_wp2_with fail
      refine (isIndex_no _ _ _ hi).mono ?_
      rintro e _ ⟨rfl, rfl⟩
      go_wp2_with fail
      refine bodyPost_ret (v := .tuple #[.slice none 0 0, .agg #[.int .i64 0, .int .i64 0, .int .u64 0, .int .i64 0, .string ⟨#[]⟩, .int .i64 0, .int .i64 0]]) (by simp [results, Tryz.results18, go_sem, xz, x0, x1, x2, x3, x4, x5, x6]) rfl ?_
      rw [HZ0.out]
      refine ⟨none, 0, rfl, OwnE.nil _ _ _, ?_⟩
      repeat (first | with_reducible exact hbw.out | with_reducible refine Below.setCell ?_ (Nat.le_succ _) _)
end Go.Proofs.YtpkofbdfnbpfpaaGreat.Num

