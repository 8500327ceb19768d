/-
  Several texts in one: DrawPlan DrawPlanB.
-/
import Derived.Test.YtpkofbdfnbpfpaaGreatXDrawD
import Derived.Test.YtpkofbdfnbpfpaaGreatXSpecA
import Derived.Test.YtpkofbdfnbpfpaaGreatDrawPickInt
import Derived.Deep.RegionWith
import Derived.Deep.RegionLaw
import Derived.Deep.DrawnRows
import Derived.Deep.DeepCutAuto

/-
  The walk of the reference's draw of a right plan (l12Plan): a compiled right schema that the call owns, and three numbers; nothing that was there is written but the cursor.
-/
namespace Go.Proofs.YtpkofbdfnbpfpaaGreat.Num
open Go.RowKit Go.Proofs
set_option linter.unusedVariables false
set_option linter.unusedSimpArgs false

/-- A plan while it is drawn: its schema, the variable that holds it, the result's cells. -/
structure Pt (w : World) (B g : Nat) (a : Option Addr) (len cap : Nat) (TM TF : TypeId) (u : Value) (ms : List OM) (R : Nat) (wx : World) : Prop where
  br : Box wx R [u]
  own : OwnRaw wx (w.heap.size + 3) TM TF u ms
  bz : Box wx w.heap.size [.slice none 0 0, .int .i64 0, .int .i64 0, .int .i64 0]
  cur : Cur wx B g a len cap
  off : Off w.heap.size g w wx
  lt : g < w.heap.size ∧ w.heap.size < R ∧ B ≤ w.heap.size
section
variable {w wx wy : World} {B g : Nat} {a : Option Addr} {len cap : Nat} {TM TF : TypeId} {u : Value} {ms : List OM} {R : Nat}
theorem Pt.only (h : Pt w B g a len cap TM TF u ms R wx) (ho : Only g wx wy) (hc : Cur wy B g a len cap) : Pt w B g a len cap TM TF u ms R wy := by
  obtain ⟨h1, h2, h3⟩ := h.lt
  have hz := h.br.1
  exact ⟨Box.grown ho h.br (fun k hk => by have := Option.some.inj hk; omega), OwnRaw.only h.own ho (by omega), Box.grown ho h.bz (fun k hk => by have := Option.some.inj hk; omega), hc, h.off.trans (Only.off ho (by omega)), h.lt⟩
theorem Pt.below (h : Pt w B g a len cap TM TF u ms R wx) (hb : Below wx.heap.size wx wy) : Pt w B g a len cap TM TF u ms R wy := by
  obtain ⟨h1, h2, h3⟩ := h.lt
  have hz := h.br.1
  exact ⟨h.br.below hb h.br.1, OwnRaw.below h.own hb, h.bz.below hb h.bz.1, h.cur.other hb (by omega) (by omega), h.off.trans (Below.off (hb.mono (by omega))), h.lt⟩
theorem Pt.alloc (h : Pt w B g a len cap TM TF u ms R wx) (o : Obj) : Pt w B g a len cap TM TF u ms R (wx.alloc o) := h.below ((Below.refl _ _).alloc (Nat.le_refl _) o)
theorem Pt.drew (h : Pt w B g a len cap TM TF u ms R wx) : Pt w B g a len cap TM TF u ms R wx.drew := h.below (Below.refl _ _).drew
end
theorem Off.setCellP {C g : Nat} {a w : World} (h : Off C g a w) {p : Addr} (hp : C ≤ p.block) (v : Value) : Off C g a (w.setCell p v) := h.trans (Below.off ((Below.refl _ _).setCell hp v))
/-- The plan's variable is written whole. -/
theorem Pt.done {w wx : World} {B g : Nat} {a : Option Addr} {len cap : Nat} {TM TF : TypeId} {u : Value} {ms : List OM} {R : Nat} (h : Pt w B g a len cap TM TF u ms R wx) (hgB : B ≤ g) (v0 v1 v2 v3 : Value) :
    Box ((((wx.setCell ⟨w.heap.size, 0, none⟩ v0).setCell ⟨w.heap.size, 1, none⟩ v1).setCell ⟨w.heap.size, 2, none⟩ v2).setCell ⟨w.heap.size, 3, none⟩ v3) w.heap.size [v0, v1, v2, v3] ∧
      OwnRaw ((((wx.setCell ⟨w.heap.size, 0, none⟩ v0).setCell ⟨w.heap.size, 1, none⟩ v1).setCell ⟨w.heap.size, 2, none⟩ v2).setCell ⟨w.heap.size, 3, none⟩ v3) (w.heap.size + 3) TM TF u ms ∧
      Cur ((((wx.setCell ⟨w.heap.size, 0, none⟩ v0).setCell ⟨w.heap.size, 1, none⟩ v1).setCell ⟨w.heap.size, 2, none⟩ v2).setCell ⟨w.heap.size, 3, none⟩ v3) B g a len cap ∧
      Off w.heap.size g w ((((wx.setCell ⟨w.heap.size, 0, none⟩ v0).setCell ⟨w.heap.size, 1, none⟩ v1).setCell ⟨w.heap.size, 2, none⟩ v2).setCell ⟨w.heap.size, 3, none⟩ v3) := by
  obtain ⟨h1, h2, h3⟩ := h.lt
  obtain ⟨k1, k2⟩ := h.own.out (k := w.heap.size) (by omega)
  refine ⟨?_, ?_, ?_, ?_⟩
  · have := (((h.bz.set 0 v0).set 1 v1).set 2 v2).set 3 v3
    exact this
  · exact (((h.own.other (p := ⟨w.heap.size, 0, none⟩) v0 k1 k2).other (p := ⟨w.heap.size, 1, none⟩) v1 k1 k2).other (p := ⟨w.heap.size, 2, none⟩) v2 k1 k2).other (p := ⟨w.heap.size, 3, none⟩) v3 k1 k2
  · have hb : Below w.heap.size wx ((((wx.setCell ⟨w.heap.size, 0, none⟩ v0).setCell ⟨w.heap.size, 1, none⟩ v1).setCell ⟨w.heap.size, 2, none⟩ v2).setCell ⟨w.heap.size, 3, none⟩ v3) := ((((Below.refl w.heap.size wx).setCell (p := ⟨w.heap.size, 0, none⟩) (Nat.le_refl _) v0).setCell (p := ⟨w.heap.size, 1, none⟩) (Nat.le_refl _) v1).setCell (p := ⟨w.heap.size, 2, none⟩) (Nat.le_refl _) v2).setCell (p := ⟨w.heap.size, 3, none⟩) (Nat.le_refl _) v3
    exact h.cur.other hb h1 h3
  · exact (((h.off.setCellP (p := ⟨w.heap.size, 0, none⟩) (Nat.le_refl _) v0).setCellP (p := ⟨w.heap.size, 1, none⟩) (Nat.le_refl _) v1).setCellP (p := ⟨w.heap.size, 2, none⟩) (Nat.le_refl _) v2).setCellP (p := ⟨w.heap.size, 3, none⟩) (Nat.le_refl _) v3
theorem blk_kept {g : Nat} {w w' : World} {o : Obj} (h : Only g (w.alloc o) w') (hn : w.heap.size ≠ g) : w'.heap[w.heap.size]? = some o := by
  have k := h.block w.heap.size (by simp) (fun e => hn (Option.some.inj e))
  rw [k]; exact heap_alloc_new w o
theorem blk_only {g b : Nat} {w w' : World} {o : Obj} (h : Only g w w') (k : w.heap[b]? = some o) (hb : b ≠ g) : w'.heap[b]? = some o := by
  rw [h.block b (blk_lt k) (fun e => hb (Option.some.inj e))]; exact k
set_option maxHeartbeats 8000000 in
set_option maxRecDepth 100000 in
theorem l12Plan_any (B g : Nat) (a : Option Addr) (len cap : Nat) (w : World) (h : Cur w B g a len cap) (hB : B ≤ w.heap.size) (hg : g < w.heap.size) :
    Calls Tryz.prog 55 #[.pointer (some ⟨g, 0, none⟩)] w fun e w' => ∃ (v : Value) (ms mr : List OM) (A D C : Int), ((0 < ms.length ∧ ms.length ≤ 4 ∧ ∀ j (hj : j < ms.length), ms[j].2.2.length ≤ 5) ∧ Right mr ∧ plain ms = compileR (plain mr)) ∧ (0 ≤ A ∧ A < ms.length ∧ 1 ≤ D ∧ D ≤ 4 ∧ 0 ≤ C ∧ C ≤ 2000) ∧ e = .returned (planV v A D C) ∧ OwnRaw w' (w.heap.size + 3) 113 117 v ms ∧ Cur w' B g a len cap ∧ Off w.heap.size g w w' := by
  have H := Lib.hid h; clear h
  have hgB : B ≤ g := H.out.choose_spec.choose_spec.1
  go_enter Tryz.func55, Tryz.ntmps55
  go_wp2_with fail
  have hx0 := Box.fresh w #[.slice none 0 0, .int .i64 0, .int .i64 0, .int .i64 0] 28
  refine (l8Right_any B g a len cap _ (H.out.other ((Below.refl w.heap.size w).alloc (Nat.le_refl _) _) (by omega) (by omega)) (by simp; omega) (by simp; omega)).mono ?_
  rintro e w1 ⟨v, ms, mr, ⟨⟨hm0, hm4, hf5⟩, hR, hp⟩, rfl, hown, hcur, hoff⟩
  have hown1 : OwnRaw w1 (w.heap.size + 3) 113 117 v ms := by simpa using hown
  have hx1 : Box w1 w.heap.size [.slice none 0 0, .int .i64 0, .int .i64 0, .int .i64 0] := Box.offAt hoff hx0 (by simp) (by omega)
  have hof1 : Off w.heap.size g w w1 := (Below.off ((Below.refl w.heap.size w).alloc (Nat.le_refl _) _)).trans (hoff.mono (by simp))
  have hz1 : w.heap.size + 1 ≤ w1.heap.size := by have := hoff.size; simpa using this
  obtain ⟨gm, capm, hv, hgm1, hgm2⟩ := World.ownsRow.form hown1.row hm0
  subst hv
  have hNi : (ms.length : Int) ≤ 4 := by omega
  have hN0 : (0 : Int) < (ms.length : Int) := by omega
  have hS0 : Hid (Pt w B g a len cap 113 117 (.slice (some ⟨gm, 0, none⟩) ms.length capm) ms w1.heap.size (w1.alloc (.cells #[.slice (some ⟨gm, 0, none⟩) ms.length capm] 26))) := Lib.hid ⟨Box.fresh w1 _ _, hown1.alloc _, hx1.alloc _, hcur.other ((Below.refl _ _).alloc (Nat.le_refl _) _) (by omega) (by omega), hof1.trans (Below.off ((Below.refl _ _).alloc (by omega) _)), hg, by omega, hB⟩
  have hQ := Lib.hid (And.intro hf5 (And.intro hR hp))
  clear hx0 hx1 hown hown1 hcur hoff hof1 hf5 hR hp H
  obtain ⟨c0, f0⟩ := hS0.out.br.2 0 (by simp)
  have hRl := hS0.out.br.1
  have hgm0 : w.heap.size ≤ w1.heap.size := by omega
  go_upto_region 2 with fail
  go_cut [] (fun wx => ∃ A D C : Int, Hid (0 ≤ A ∧ A < ms.length ∧ 0 ≤ D ∧ D < 4 ∧ 0 ≤ C ∧ C ≤ 2000) ∧ Hid (Box wx w.heap.size [.slice (some ⟨gm, 0, none⟩) ms.length capm, .int .i64 A, .int .i64 (1 + D), .int .i64 C]) ∧ Hid (OwnRaw wx (w.heap.size + 3) 113 117 (.slice (some ⟨gm, 0, none⟩) ms.length capm) ms) ∧ Hid (Cur wx B g a len cap) ∧ Hid (Off w.heap.size g w wx))
  case first =>
    go_region_with (first
      | (go_at_call_of 56 (Value.int IntKind.i64 ms.length); refine (l1Below_any B g a len cap _ _ (by first | exact hS0.out.drew.cur | exact (hS0.out.drew.alloc _).cur) (by omega)).mono ?_; rintro e w3 ⟨A, A0, A1, rfl, hc3, ho3⟩; have hA := A1 (by omega); have hS1 := Lib.hid (show Pt w B g a len cap 113 117 (.slice (some ⟨gm, 0, none⟩) ms.length capm) ms w1.heap.size w3 by first | exact hS0.out.drew.only ho3 hc3 | exact (hS0.out.drew.alloc _).only ho3 hc3); obtain ⟨d0, q0⟩ := hS1.out.br.2 0 (by simp); have hz3 := hS1.out.br.1; try (have hbk := Lib.hid (show w3.heap[w1.heap.size + 1]? = some (.cells #[.int .i64 60, .int .i64 60, .int .i64 2000, .int .i64 200, .int .i64 5, .int .i64 0] 3 : Obj) by have k := blk_kept (w := (w1.alloc (.cells #[.slice (some ⟨gm, 0, none⟩) ms.length capm] 26)).drew) (o := (.cells #[.int .i64 60, .int .i64 60, .int .i64 2000, .int .i64 200, .int .i64 5, .int .i64 0] 3 : Obj)) ho3 (by simp; omega); simpa using k)); clear A1 hc3 ho3)
      | (go_at_call_of 56 (Value.int IntKind.i64 4); refine (l1Below_any B g a len cap _ _ (by first | exact hS1.out.cur | exact (hS1.out.alloc _).cur) (by omega)).mono ?_; rintro e w4 ⟨D, D0, D1, rfl, hc4, ho4⟩; have hD := D1 (by omega); have hwD : IntKind.i64.wrap (1 + D) = 1 + D := IntWalk.i64_in _ (by omega); have hS2 := Lib.hid (show Pt w B g a len cap 113 117 (.slice (some ⟨gm, 0, none⟩) ms.length capm) ms w1.heap.size w4 by first | exact hS1.out.only ho4 hc4 | exact (hS1.out.alloc _).only ho4 hc4); obtain ⟨e0, p0⟩ := hS2.out.br.2 0 (by simp); have hz4 := hS2.out.br.1; first | (have hbk := Lib.hid (blk_only ho4 hbk.out (by simp; omega))) | (have hbk := Lib.hid (blk_kept ho4 (by omega))) | skip; clear D1 hc4 ho4)
      | (go_at_call 60; refine (l1PickInt_any _ g a len cap _ 6 6 [60, 60, 2000, 200, 5, 0] #[.int .i64 60, .int .i64 60, .int .i64 2000, .int .i64 200, .int .i64 5, .int .i64 0] 3 (0, 0) _ (by first | exact hS2.out.cur | exact (hS2.out.alloc _).cur) (by first | exact hbk.out | exact heap_alloc_new _ _) rfl rfl (by omega) (by omega) (by first | omega | (simp; omega))).mono ?_; rintro e w5 ⟨z, hz, rfl, hc5, ho5⟩; have hS3 := Lib.hid (show Pt w B g a len cap 113 117 (.slice (some ⟨gm, 0, none⟩) ms.length capm) ms w1.heap.size w5 by first | exact hS2.out.only ho5 hc5 | exact (hS2.out.alloc _).only ho5 hc5); have hzc : Hid (0 ≤ z ∧ z ≤ 2000) := Lib.hid (by simp only [List.mem_cons, List.not_mem_nil, or_false] at hz; omega); obtain ⟨k0, l0⟩ := hS3.out.br.2 0 (by simp); obtain ⟨m0, r0⟩ := hS3.out.bz.2 0 (by simp); obtain ⟨m1, r1⟩ := hS3.out.bz.2 1 (by simp); obtain ⟨m2, r2⟩ := hS3.out.bz.2 2 (by simp); obtain ⟨m3, r3⟩ := hS3.out.bz.2 3 (by simp); clear hz hc5 ho5))
    all_goals
      go_wp2_with fail
      go_meet
      have KK := hS3.out.done hgB (.slice (some ⟨gm, 0, none⟩) ms.length capm) (.int .i64 A) (.int .i64 (1 + D)) (.int .i64 z)
      have hzz := hzc.out
      exact ⟨A, D, z, Lib.hid (by omega), Lib.hid KK.1, Lib.hid KK.2.1, Lib.hid KK.2.2.1, Lib.hid KK.2.2.2⟩
  case rest =>
  obtain ⟨A, D, C, HA, HB, HO, HC, HF⟩ := hcut
  have hA := HA.out
  obtain ⟨hf5, hR, hp⟩ := hQ.out
  obtain ⟨b0, b1, b2, b3⟩ := HB.out.fourC
  have hz := HB.out.lt
  go_wp2_with fail
  refine bodyPost_ret (v := planV (.slice (some ⟨gm, 0, none⟩) ms.length capm) A (1 + D) C) (by unfold planV; simp [results, Tryz.results55, go_sem, b0, b1, b2, b3, hz]) rfl ?_
  exact ⟨.slice (some ⟨gm, 0, none⟩) ms.length capm, ms, mr, A, 1 + D, C, ⟨⟨hm0, hm4, hf5⟩, hR, hp⟩, by omega, rfl, HO.out, HC.out, HF.out⟩
end Go.Proofs.YtpkofbdfnbpfpaaGreat.Num


/-
  The walk of the reference's draw of a plan that is right or bent (l12Bent): a schema that the call owns, and three numbers; nothing that was there is written but the cursor.
-/
namespace Go.Proofs.YtpkofbdfnbpfpaaGreat.Num
open Go.RowKit Go.Proofs
set_option linter.unusedVariables false
set_option linter.unusedSimpArgs false
/-- A plan that is drawn and lies in a variable: its schema, its numbers, the result's cells. -/
structure Pu (w : World) (B g : Nat) (a : Option Addr) (len cap : Nat) (TM TF : TypeId) (v : Value) (ms : List OM) (x y z : Value) (R : Nat) (wx : World) : Prop where
  br : Box wx R [v, x, y, z]
  own : OwnRaw wx (w.heap.size + 3) TM TF v ms
  apart : v.ownBlock ≠ some R ∧ ∀ i (hi : i < ms.length), ms[i].2.1.ownBlock ≠ some R
  bz : Box wx w.heap.size [.slice none 0 0, .int .i64 0, .int .i64 0, .int .i64 0]
  cur : Cur wx B g a len cap
  off : Off w.heap.size g w wx
  lt : g < w.heap.size ∧ w.heap.size + 3 ≤ R ∧ B ≤ w.heap.size
section
variable {w wx wy : World} {B g : Nat} {a : Option Addr} {len cap : Nat} {TM TF : TypeId} {v x y z : Value} {ms : List OM} {R : Nat}
theorem Pu.only (h : Pu w B g a len cap TM TF v ms x y z R wx) (ho : Only g wx wy) (hc : Cur wy B g a len cap) : Pu w B g a len cap TM TF v ms x y z R wy := by
  obtain ⟨h1, h2, h3⟩ := h.lt
  have hz := h.br.1
  exact ⟨Box.grown ho h.br (fun k hk => by have := Option.some.inj hk; omega), OwnRaw.only h.own ho (by omega), h.apart, Box.grown ho h.bz (fun k hk => by have := Option.some.inj hk; omega), hc, h.off.trans (Only.off ho (by omega)), h.lt⟩
theorem Pu.below (h : Pu w B g a len cap TM TF v ms x y z R wx) (hb : Below wx.heap.size wx wy) : Pu w B g a len cap TM TF v ms x y z R wy := by
  obtain ⟨h1, h2, h3⟩ := h.lt
  have hz := h.br.1
  exact ⟨h.br.below hb h.br.1, OwnRaw.below h.own hb, h.apart, h.bz.below hb h.bz.1, h.cur.other hb (by omega) (by omega), h.off.trans (Below.off (hb.mono (by omega))), h.lt⟩
/-- A number of the plan is written. -/
theorem Pu.set1 (h : Pu w B g a len cap TM TF v ms x y z R wx) (u : Value) : Pu w B g a len cap TM TF v ms u y z R (wx.setCell ⟨R, 1, none⟩ u) := by
  obtain ⟨h1, h2, h3⟩ := h.lt
  exact ⟨by have := h.br.set 1 u; exact this, h.own.other (p := ⟨R, 1, none⟩) u h.apart.1 h.apart.2, h.apart, h.bz.other (a := ⟨R, 1, none⟩) (show R ≠ w.heap.size by omega) _, h.cur.other ((Below.refl R wx).setCell (p := ⟨R, 1, none⟩) (Nat.le_refl _) u) (by omega) (by omega), h.off.setCellP (p := ⟨R, 1, none⟩) (show w.heap.size ≤ R by omega) _, h.lt⟩
theorem Pu.set2 (h : Pu w B g a len cap TM TF v ms x y z R wx) (u : Value) : Pu w B g a len cap TM TF v ms x u z R (wx.setCell ⟨R, 2, none⟩ u) := by
  obtain ⟨h1, h2, h3⟩ := h.lt
  exact ⟨by have := h.br.set 2 u; exact this, h.own.other (p := ⟨R, 2, none⟩) u h.apart.1 h.apart.2, h.apart, h.bz.other (a := ⟨R, 2, none⟩) (show R ≠ w.heap.size by omega) _, h.cur.other ((Below.refl R wx).setCell (p := ⟨R, 2, none⟩) (Nat.le_refl _) u) (by omega) (by omega), h.off.setCellP (p := ⟨R, 2, none⟩) (show w.heap.size ≤ R by omega) _, h.lt⟩
theorem Pu.set3 (h : Pu w B g a len cap TM TF v ms x y z R wx) (u : Value) : Pu w B g a len cap TM TF v ms x y u R (wx.setCell ⟨R, 3, none⟩ u) := by
  obtain ⟨h1, h2, h3⟩ := h.lt
  exact ⟨by have := h.br.set 3 u; exact this, h.own.other (p := ⟨R, 3, none⟩) u h.apart.1 h.apart.2, h.apart, h.bz.other (a := ⟨R, 3, none⟩) (show R ≠ w.heap.size by omega) _, h.cur.other ((Below.refl R wx).setCell (p := ⟨R, 3, none⟩) (Nat.le_refl _) u) (by omega) (by omega), h.off.setCellP (p := ⟨R, 3, none⟩) (show w.heap.size ≤ R by omega) _, h.lt⟩
/-- Another schema is written. -/
theorem Pu.set0 {v' : Value} {ms' : List OM} (h : Pu w B g a len cap TM TF v ms x y z R wx) (hr : Box wy R [v, x, y, z]) (hb : Box wy w.heap.size [.slice none 0 0, .int .i64 0, .int .i64 0, .int .i64 0]) (ho : OwnRaw wy (wx.heap.size + 3) TM TF v' ms') (hc : Cur wy B g a len cap) (hf : Off wx.heap.size g wx wy) : Pu w B g a len cap TM TF v' ms' x y z R (wy.setCell ⟨R, 0, none⟩ v') := by
  obtain ⟨h1, h2, h3⟩ := h.lt
  have hz := h.br.1
  obtain ⟨k1, k2⟩ := ho.out (k := R) (by omega)
  exact ⟨by have := hr.set 0 v'; exact this, (ho.base (by omega)).other (p := ⟨R, 0, none⟩) v' k1 k2, ⟨k1, k2⟩, hb.other (a := ⟨R, 0, none⟩) (show R ≠ w.heap.size by omega) _, hc.other ((Below.refl R wy).setCell (p := ⟨R, 0, none⟩) (Nat.le_refl _) v') (by omega) (by omega), (h.off.trans (hf.mono (by omega))).setCellP (p := ⟨R, 0, none⟩) (show w.heap.size ≤ R by omega) _, h.lt⟩
/-- The result is written whole. -/
theorem Pu.done (h : Pu w B g a len cap TM TF v ms x y z R wx) (v0 v1 v2 v3 : Value) :
    OwnRaw ((((wx.setCell ⟨w.heap.size, 0, none⟩ v0).setCell ⟨w.heap.size, 1, none⟩ v1).setCell ⟨w.heap.size, 2, none⟩ v2).setCell ⟨w.heap.size, 3, none⟩ v3) (w.heap.size + 3) TM TF v ms ∧
      Cur ((((wx.setCell ⟨w.heap.size, 0, none⟩ v0).setCell ⟨w.heap.size, 1, none⟩ v1).setCell ⟨w.heap.size, 2, none⟩ v2).setCell ⟨w.heap.size, 3, none⟩ v3) B g a len cap ∧
      Off w.heap.size g w ((((wx.setCell ⟨w.heap.size, 0, none⟩ v0).setCell ⟨w.heap.size, 1, none⟩ v1).setCell ⟨w.heap.size, 2, none⟩ v2).setCell ⟨w.heap.size, 3, none⟩ v3) := by
  obtain ⟨h1, h2, h3⟩ := h.lt
  obtain ⟨k1, k2⟩ := h.own.out (k := w.heap.size) (by omega)
  have hb : Below w.heap.size wx ((((wx.setCell ⟨w.heap.size, 0, none⟩ v0).setCell ⟨w.heap.size, 1, none⟩ v1).setCell ⟨w.heap.size, 2, none⟩ v2).setCell ⟨w.heap.size, 3, none⟩ v3) := ((((Below.refl w.heap.size wx).setCell (p := ⟨w.heap.size, 0, none⟩) (Nat.le_refl _) v0).setCell (p := ⟨w.heap.size, 1, none⟩) (Nat.le_refl _) v1).setCell (p := ⟨w.heap.size, 2, none⟩) (Nat.le_refl _) v2).setCell (p := ⟨w.heap.size, 3, none⟩) (Nat.le_refl _) v3
  exact ⟨(((h.own.other (p := ⟨w.heap.size, 0, none⟩) v0 k1 k2).other (p := ⟨w.heap.size, 1, none⟩) v1 k1 k2).other (p := ⟨w.heap.size, 2, none⟩) v2 k1 k2).other (p := ⟨w.heap.size, 3, none⟩) v3 k1 k2, h.cur.other hb h1 h3, h.off.trans (Below.off hb)⟩
end
set_option maxHeartbeats 4000000 in
set_option maxRecDepth 100000 in
theorem l12Bent_any (B g : Nat) (a : Option Addr) (len cap : Nat) (w : World) (h : Cur w B g a len cap) (hB : B ≤ w.heap.size) (hg : g < w.heap.size) :
    Calls Tryz.prog 61 #[.pointer (some ⟨g, 0, none⟩)] w fun e w' => ∃ (v : Value) (ms : List OM) (A D C : Int), SchSz ms ∧ (-1 ≤ A ∧ A ≤ 9223372036854775807 ∧ -1 ≤ D ∧ D ≤ 9 ∧ -1 ≤ C ∧ C ≤ 2001) ∧ e = .returned (planV v A D C) ∧ OwnRaw w' (w.heap.size + 3) 113 117 v ms ∧ Cur w' B g a len cap ∧ Off w.heap.size g w w' := by
  have H := Lib.hid h; clear h
  have hgB : B ≤ g := H.out.choose_spec.choose_spec.1
  go_enter Tryz.func61, Tryz.ntmps61
  go_wp2_with fail
  have hx0 := Box.fresh w #[.slice none 0 0, .int .i64 0, .int .i64 0, .int .i64 0] 28
  refine (l12Plan_any B g a len cap _ (H.out.other ((Below.refl w.heap.size w).alloc (Nat.le_refl _) _) (by omega) (by omega)) (by simp; omega) (by simp; omega)).mono ?_
  rintro e w1 ⟨v, ms, mr, A, D, C, ⟨⟨hm0, hm4, hf5⟩, hR, hp⟩, hn, rfl, hown, hcur, hoff⟩
  have hown1 : OwnRaw w1 (w.heap.size + 3) 113 117 v ms := hown.base (by simp)
  have hx1 : Box w1 w.heap.size [.slice none 0 0, .int .i64 0, .int .i64 0, .int .i64 0] := Box.offAt hoff hx0 (by simp) (by omega)
  have hof1 : Off w.heap.size g w w1 := (Below.off ((Below.refl w.heap.size w).alloc (Nat.le_refl _) _)).trans (hoff.mono (by simp))
  obtain ⟨gm, capm, hv, hgm1, hgm2⟩ := World.ownsRow.form hown1.row hm0
  subst hv
  have hz1 : w.heap.size + 3 ≤ w1.heap.size := by
    have hlt := World.ownsRow.lt hown1.row gm (by rfl)
    omega
  have hSz : SchSz ms := ⟨hm0, by omega, fun j hj => Nat.le_trans (hf5 j hj) (by omega)⟩
  unfold planV
  have hS1 : Hid (Pu w B g a len cap 113 117 (.slice (some ⟨gm, 0, none⟩) ms.length capm) ms (.int .i64 A) (.int .i64 D) (.int .i64 C) w1.heap.size (w1.alloc (.cells #[.slice (some ⟨gm, 0, none⟩) ms.length capm, .int .i64 A, .int .i64 D, .int .i64 C] 28))) := Lib.hid ⟨Box.fresh w1 _ _, hown1.alloc _, hown1.new, hx1.alloc _, hcur.other ((Below.refl w1.heap.size _).alloc (Nat.le_refl _) _) (by omega) (by omega), hof1.trans (Below.off ((Below.refl w.heap.size w1).alloc (by omega) _)), by omega⟩
  have Hn := Lib.hid hn
  clear hx0 hx1 hown hown1 hcur hoff hof1 H hn hR hp hf5
  go_wp2_with fail
  refine (l1Below_any B g a len cap 10 _ hS1.out.cur (by omega)).mono ?_
  rintro e w2 ⟨m, m0, m1, rfl, hc2, ho2⟩
  have hS2 := Lib.hid (hS1.out.only ho2 hc2)
  generalize w1.heap.size = R at hS1 hS2 hz1 ⊢
  clear hS1 hc2 ho2 m1
  have hm : m = 0 ∨ m = 1 ∨ m = 2 ∨ m = 3 ∨ 4 ≤ m := by omega
  rcases hm with hm | hm | hm | hm | hm
  · subst hm
    have hlt2 := hS2.out.lt
    have hbr2 := hS2.out.br
    have hbz2 := hS2.out.bz
    have hRl2 := hbr2.1
    go_wp2_with fail
    refine (l8Bent_any B g a len cap _ hS2.out.cur (by omega) (by omega)).mono ?_
    rintro e w3 ⟨v', ms', hs', rfl, hown', hcur', hoff'⟩
    obtain ⟨gn, capn, hv', _, _⟩ := World.ownsRow.form hown'.row hs'.1
    subst hv'
    have hS3 : Hid (Box w3 R [(.slice (some ⟨gm, 0, none⟩) ms.length capm), .int .i64 A, .int .i64 D, .int .i64 C] ∧ Box w3 w.heap.size [.slice none 0 0, .int .i64 0, .int .i64 0, .int .i64 0]) := Lib.hid ⟨Box.offAt hoff' hbr2 (by omega) (by omega), Box.offAt hoff' hbz2 (by omega) (by omega)⟩
    have hS4 := Lib.hid (hS2.out.set0 hS3.out.1 hS3.out.2 hown' hcur' hoff')
    clear hbr2 hbz2 hRl2 hown' hcur' hoff'
    obtain ⟨c0, f0⟩ := hS3.out.1.2 0 (by simp)
    obtain ⟨c1, f1⟩ := hS3.out.1.2 1 (by simp)
    obtain ⟨c2, f2⟩ := hS3.out.1.2 2 (by simp)
    obtain ⟨c3, f3⟩ := hS3.out.1.2 3 (by simp)
    obtain ⟨z0, y0⟩ := hS3.out.2.2 0 (by simp)
    obtain ⟨z1, y1⟩ := hS3.out.2.2 1 (by simp)
    obtain ⟨z2, y2⟩ := hS3.out.2.2 2 (by simp)
    obtain ⟨z3, y3⟩ := hS3.out.2.2 3 (by simp)
    simp only [List.getElem_cons_succ, List.getElem_cons_zero] at c0 c1 c2 c3 z0 z1 z2 z3
    have hRl := hS3.out.1.1
    have hRw := hS3.out.2.1
    have hne1 : ¬ R = w.heap.size := by omega
    have hne2 : ¬ w.heap.size = R := by omega
    clear hS2
    go_wp2_with fail
    refine bodyPost_ret (v := planV (.slice (some ⟨gn, 0, none⟩) ms'.length capn) A D C) (by unfold planV; simp [results, Tryz.results61, go_sem, hRl, hRw, hne1, hne2, c0, c1, c2, c3, z0, z1, z2, z3]) rfl ?_
    have KK := hS4.out.done (.slice (some ⟨gn, 0, none⟩) ms'.length capn) (.int .i64 A) (.int .i64 D) (.int .i64 C)
    have hn2 := Hn.out
    exact ⟨(.slice (some ⟨gn, 0, none⟩) ms'.length capn), ms', A, D, C, hs', by omega, rfl, KK.1, KK.2.1, KK.2.2⟩
  · subst hm
    obtain ⟨c0, f0⟩ := hS2.out.br.2 1 (by simp)
    have hRl := hS2.out.br.1
    go_wp2_with fail
    refine (l1PickInt_any B g a len cap _ 4 4 [-1, 0, 3, 9223372036854775807] #[.int .i64 (-1), .int .i64 0, .int .i64 3, .int .i64 9223372036854775807] 3 (0, 0) _ (hS2.out.below ((Below.refl _ _).alloc (Nat.le_refl _) _)).cur (heap_alloc_new _ _) rfl rfl (by omega) (by omega) (by have := hS2.out.lt; have := hS2.out.br.1; omega)).mono ?_
    rintro e w3 ⟨z, hz, rfl, hc3, ho3⟩
    have hS3 := Lib.hid ((hS2.out.below ((Below.refl _ _).alloc (Nat.le_refl _) _)).only ho3 hc3)
    simp only [List.mem_cons, List.not_mem_nil, or_false] at hz
    have hS4 := Lib.hid (hS3.out.set1 (.int .i64 z))
    clear hc3 ho3 c0 f0 hRl hS2
    obtain ⟨c0, f0⟩ := hS3.out.br.2 0 (by simp)
    obtain ⟨c1, f1⟩ := hS3.out.br.2 1 (by simp)
    obtain ⟨c2, f2⟩ := hS3.out.br.2 2 (by simp)
    obtain ⟨c3, f3⟩ := hS3.out.br.2 3 (by simp)
    obtain ⟨z0, y0⟩ := hS3.out.bz.2 0 (by simp)
    obtain ⟨z1, y1⟩ := hS3.out.bz.2 1 (by simp)
    obtain ⟨z2, y2⟩ := hS3.out.bz.2 2 (by simp)
    obtain ⟨z3, y3⟩ := hS3.out.bz.2 3 (by simp)
    simp only [List.getElem_cons_succ, List.getElem_cons_zero] at c0 c1 c2 c3 z0 z1 z2 z3
    have hRl := hS3.out.br.1
    have hRw := hS3.out.bz.1
    have hne1 : ¬ R = w.heap.size := by have := hS3.out.lt; omega
    have hne2 : ¬ w.heap.size = R := by have := hS3.out.lt; omega
    go_wp2_with fail
    refine bodyPost_ret (v := planV (.slice (some ⟨gm, 0, none⟩) ms.length capm) z D C) (by unfold planV; simp [results, Tryz.results61, go_sem, hRl, hRw, hne1, hne2, c0, c1, c2, c3, z0, z1, z2, z3]) rfl ?_
    have KK := hS4.out.done (.slice (some ⟨gm, 0, none⟩) ms.length capm) (.int .i64 z) (.int .i64 D) (.int .i64 C)
    have hn2 := Hn.out
    exact ⟨(.slice (some ⟨gm, 0, none⟩) ms.length capm), ms, z, D, C, hSz, by omega, rfl, KK.1, KK.2.1, KK.2.2⟩
  · subst hm
    obtain ⟨c0, f0⟩ := hS2.out.br.2 2 (by simp)
    have hRl := hS2.out.br.1
    go_wp2_with fail
    refine (l1PickInt_any B g a len cap _ 5 5 [0, 1, 8, 9, -1] #[.int .i64 0, .int .i64 1, .int .i64 8, .int .i64 9, .int .i64 (-1)] 3 (0, 0) _ (hS2.out.below ((Below.refl _ _).alloc (Nat.le_refl _) _)).cur (heap_alloc_new _ _) rfl rfl (by omega) (by omega) (by have := hS2.out.lt; have := hS2.out.br.1; omega)).mono ?_
    rintro e w3 ⟨z, hz, rfl, hc3, ho3⟩
    have hS3 := Lib.hid ((hS2.out.below ((Below.refl _ _).alloc (Nat.le_refl _) _)).only ho3 hc3)
    simp only [List.mem_cons, List.not_mem_nil, or_false] at hz
    have hS4 := Lib.hid (hS3.out.set2 (.int .i64 z))
    clear hc3 ho3 c0 f0 hRl hS2
    obtain ⟨c0, f0⟩ := hS3.out.br.2 0 (by simp)
    obtain ⟨c1, f1⟩ := hS3.out.br.2 1 (by simp)
    obtain ⟨c2, f2⟩ := hS3.out.br.2 2 (by simp)
    obtain ⟨c3, f3⟩ := hS3.out.br.2 3 (by simp)
    obtain ⟨z0, y0⟩ := hS3.out.bz.2 0 (by simp)
    obtain ⟨z1, y1⟩ := hS3.out.bz.2 1 (by simp)
    obtain ⟨z2, y2⟩ := hS3.out.bz.2 2 (by simp)
    obtain ⟨z3, y3⟩ := hS3.out.bz.2 3 (by simp)
    simp only [List.getElem_cons_succ, List.getElem_cons_zero] at c0 c1 c2 c3 z0 z1 z2 z3
    have hRl := hS3.out.br.1
    have hRw := hS3.out.bz.1
    have hne1 : ¬ R = w.heap.size := by have := hS3.out.lt; omega
    have hne2 : ¬ w.heap.size = R := by have := hS3.out.lt; omega
    go_wp2_with fail
    refine bodyPost_ret (v := planV (.slice (some ⟨gm, 0, none⟩) ms.length capm) A z C) (by unfold planV; simp [results, Tryz.results61, go_sem, hRl, hRw, hne1, hne2, c0, c1, c2, c3, z0, z1, z2, z3]) rfl ?_
    have KK := hS4.out.done (.slice (some ⟨gm, 0, none⟩) ms.length capm) (.int .i64 A) (.int .i64 z) (.int .i64 C)
    have hn2 := Hn.out
    exact ⟨(.slice (some ⟨gm, 0, none⟩) ms.length capm), ms, A, z, C, hSz, by omega, rfl, KK.1, KK.2.1, KK.2.2⟩
  · subst hm
    obtain ⟨c0, f0⟩ := hS2.out.br.2 3 (by simp)
    have hRl := hS2.out.br.1
    go_wp2_with fail
    refine (l1PickInt_any B g a len cap _ 4 4 [-1, 0, 2000, 2001] #[.int .i64 (-1), .int .i64 0, .int .i64 2000, .int .i64 2001] 3 (0, 0) _ (hS2.out.below ((Below.refl _ _).alloc (Nat.le_refl _) _)).cur (heap_alloc_new _ _) rfl rfl (by omega) (by omega) (by have := hS2.out.lt; have := hS2.out.br.1; omega)).mono ?_
    rintro e w3 ⟨z, hz, rfl, hc3, ho3⟩
    have hS3 := Lib.hid ((hS2.out.below ((Below.refl _ _).alloc (Nat.le_refl _) _)).only ho3 hc3)
    simp only [List.mem_cons, List.not_mem_nil, or_false] at hz
    have hS4 := Lib.hid (hS3.out.set3 (.int .i64 z))
    clear hc3 ho3 c0 f0 hRl hS2
    obtain ⟨c0, f0⟩ := hS3.out.br.2 0 (by simp)
    obtain ⟨c1, f1⟩ := hS3.out.br.2 1 (by simp)
    obtain ⟨c2, f2⟩ := hS3.out.br.2 2 (by simp)
    obtain ⟨c3, f3⟩ := hS3.out.br.2 3 (by simp)
    obtain ⟨z0, y0⟩ := hS3.out.bz.2 0 (by simp)
    obtain ⟨z1, y1⟩ := hS3.out.bz.2 1 (by simp)
    obtain ⟨z2, y2⟩ := hS3.out.bz.2 2 (by simp)
    obtain ⟨z3, y3⟩ := hS3.out.bz.2 3 (by simp)
    simp only [List.getElem_cons_succ, List.getElem_cons_zero] at c0 c1 c2 c3 z0 z1 z2 z3
    have hRl := hS3.out.br.1
    have hRw := hS3.out.bz.1
    have hne1 : ¬ R = w.heap.size := by have := hS3.out.lt; omega
    have hne2 : ¬ w.heap.size = R := by have := hS3.out.lt; omega
    go_wp2_with fail
    refine bodyPost_ret (v := planV (.slice (some ⟨gm, 0, none⟩) ms.length capm) A D z) (by unfold planV; simp [results, Tryz.results61, go_sem, hRl, hRw, hne1, hne2, c0, c1, c2, c3, z0, z1, z2, z3]) rfl ?_
    have KK := hS4.out.done (.slice (some ⟨gm, 0, none⟩) ms.length capm) (.int .i64 A) (.int .i64 D) (.int .i64 z)
    have hn2 := Hn.out
    exact ⟨(.slice (some ⟨gm, 0, none⟩) ms.length capm), ms, A, D, z, hSz, by omega, rfl, KK.1, KK.2.1, KK.2.2⟩
  · have n0 : (m == 0) = false := neI (by omega)
    have n1 : (m == 1) = false := neI (by omega)
    have n2 : (m == 2) = false := neI (by omega)
    have n3 : (m == 3) = false := neI (by omega)
    obtain ⟨c0, f0⟩ := hS2.out.br.2 0 (by simp)
    obtain ⟨c1, f1⟩ := hS2.out.br.2 1 (by simp)
    obtain ⟨c2, f2⟩ := hS2.out.br.2 2 (by simp)
    obtain ⟨c3, f3⟩ := hS2.out.br.2 3 (by simp)
    obtain ⟨z0, y0⟩ := hS2.out.bz.2 0 (by simp)
    obtain ⟨z1, y1⟩ := hS2.out.bz.2 1 (by simp)
    obtain ⟨z2, y2⟩ := hS2.out.bz.2 2 (by simp)
    obtain ⟨z3, y3⟩ := hS2.out.bz.2 3 (by simp)
    simp only [List.getElem_cons_succ, List.getElem_cons_zero] at c0 c1 c2 c3 z0 z1 z2 z3
    have hRl := hS2.out.br.1
    have hRw := hS2.out.bz.1
    have hne1 : ¬ R = w.heap.size := by have := hS2.out.lt; omega
    have hne2 : ¬ w.heap.size = R := by have := hS2.out.lt; omega
    go_wp2_with fail
    refine bodyPost_ret (v := planV (.slice (some ⟨gm, 0, none⟩) ms.length capm) A D C) (by unfold planV; simp [results, Tryz.results61, go_sem, hRl, hRw, hne1, hne2, c0, c1, c2, c3, z0, z1, z2, z3]) rfl ?_
    have KK := hS2.out.done (.slice (some ⟨gm, 0, none⟩) ms.length capm) (.int .i64 A) (.int .i64 D) (.int .i64 C)
    have hn2 := Hn.out
    exact ⟨(.slice (some ⟨gm, 0, none⟩) ms.length capm), ms, A, D, C, hSz, by omega, rfl, KK.1, KK.2.1, KK.2.2⟩
end Go.Proofs.YtpkofbdfnbpfpaaGreat.Num

