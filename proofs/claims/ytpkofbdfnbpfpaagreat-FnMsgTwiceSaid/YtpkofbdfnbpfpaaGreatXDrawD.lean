/-
  Several texts in one: DrawSch Bent BentSch HeldS DrawBent DrawSchB.
-/
import Derived.Test.YtpkofbdfnbpfpaaGreatDrawRaw
import Derived.Test.YtpkofbdfnbpfpaaGreatXDrawC
import Derived.Test.YtpkofbdfnbpfpaaGreatXDrawA
import Derived.Test.YtpkofbdfnbpfpaaGreatRound
import Derived.OrdersHeld
import Derived.Deep.RegionHeld
import Derived.Deep.RegionWith
import Derived.Deep.RegionLaw
import Derived.Deep.DrawnRows
import Derived.Deep.DeepCutAuto
import Derived.Deep.CutBlock
import Derived.StillTailTactics
import Derived.Deep.RegionHeld3

/-
  The walk of the reference's draw of a right schema (l8Right): the compiled right plan; nothing that was there is written but the cursor.
-/
namespace Go.Proofs.YtpkofbdfnbpfpaaGreat.Num
open Go.RowKit Go.Proofs
set_option linter.unusedVariables false
set_option linter.unusedSimpArgs false

theorem below_two {w w2 : World} {B : Nat} (h : Below B w w2) (hB : B ≤ w2.heap.size) (o p : Obj) : Below B w ((w2.alloc o).alloc p) := (h.alloc hB o).alloc (by simp; omega) p
theorem comp_each {r : List RM} {N : Nat} (h : ∀ m ∈ r, m.2.length ≤ N) : ∀ m ∈ compileR r, m.2.length ≤ N := by
  unfold compileR
  exact comp_small h r _ h fun m hm => by rw [List.eq_of_mem_replicate hm]; simp
set_option maxHeartbeats 2000000 in
set_option maxRecDepth 100000 in
theorem l8Right_any (B g : Nat) (a : Option Addr) (len cap : Nat) (w : World) (h : Cur w B g a len cap) (hB : B ≤ w.heap.size) (hg : g < w.heap.size) :
    Calls Tryz.prog 87 #[.pointer (some ⟨g, 0, none⟩)] w fun e w' => ∃ (v : Value) (ms mr : List OM), ((0 < ms.length ∧ ms.length ≤ 4 ∧ ∀ j (hj : j < ms.length), ms[j].2.2.length ≤ 5) ∧ Right mr ∧ plain ms = compileR (plain mr)) ∧ e = .returned (.agg #[v]) ∧ OwnRaw w' (w.heap.size + 2) 113 117 v ms ∧ Cur w' B g a len cap ∧ Off w.heap.size g w w' := by
  have H := Lib.hid h; clear h
  have hgB : B ≤ g := H.out.choose_spec.choose_spec.1
  go_enter Tryz.func87, Tryz.ntmps87
  go_wp2_with fail
  have hx0 := Box.fresh w #[.slice none 0 0] 26
  refine (l6Right_any B g a len cap _ (H.out.other ((Below.refl w.heap.size w).alloc (Nat.le_refl _) _) (by omega) (by omega)) (by simp; omega) (by simp; omega)).mono ?_
  rintro e w1 ⟨v, mr, ⟨h0, h4, h5, hR⟩, rfl, hown, hcur, hoff⟩
  have hx1 : Box w1 w.heap.size [.slice none 0 0] := Box.offAt hoff hx0 (by simp) (by omega)
  have hof1 : Off w.heap.size g w w1 := (Below.off ((Below.refl w.heap.size w).alloc (Nat.le_refl _) _)).trans (hoff.mono (by simp))
  have hz1 : w.heap.size + 1 ≤ w1.heap.size := by have := hoff.size; simpa using this
  have hsm : Small (plain mr) := ⟨by simp [plain]; omega, fun m hm => by
    obtain ⟨x, hx, rfl⟩ := List.mem_map.1 hm
    obtain ⟨j, hj, rfl⟩ := List.getElem_of_mem hx
    have := h5 j hj
    simp only; omega⟩
  have hraw := hown.rawAtAll
  obtain ⟨gr, cr, hv, hgr1, hgr2⟩ := World.ownsRow.form hown.row h0
  have hz2 : w.heap.size + 3 < w1.heap.size := by simp at hgr1; omega
  subst hv
  clear hx0 hoff hown
  go_wp2_with fail
  refine (specCompile_own _ (plain mr) _ hraw hsm).mono ?_
  rintro e w2 ⟨f, u, hc, rfl, hb2⟩
  obtain rfl := hR.first (fun j hj => Nat.le_trans (h5 j hj) (by omega)) hc.1
  obtain ⟨ms, hp, ho⟩ : ∃ ms, plain ms = compileR (plain mr) ∧ OwnRaw w2 w1.heap.size 113 117 u ms := by
    rcases hc.2 with ⟨e, _⟩ | ⟨_, h⟩
    · exact absurd rfl e
    · exact h
  have hml : ms.length = mr.length := by
    have := congrArg List.length hp
    rw [compileR_len] at this
    simpa [plain] using this
  obtain ⟨gm, cm, hu, hg1, hg2⟩ := World.ownsRow.form ho.row (by omega)
  subst hu
  have hx2 := hx1.below hb2 hx1.1
  have hcur2 : Cur w2 B g a len cap := hcur.other hb2 (by omega) (by omega)
  have hof2 : Off w.heap.size g w w2 := hof1.trans (Below.off (hb2.mono (by omega)))
  have hfl : ∀ j (hj : j < ms.length), ms[j].2.2.length ≤ 5 := fun j hj => by
    have h1 : ∀ m ∈ plain mr, m.2.length ≤ 5 := fun m hm => by
      obtain ⟨x, hx, rfl⟩ := List.mem_map.1 hm
      obtain ⟨i, hi, rfl⟩ := List.getElem_of_mem hx
      exact h5 i hi
    have h2 := comp_each h1
    rw [← hp] at h2
    exact h2 (ms[j].1, ms[j].2.2) (List.mem_map.2 ⟨ms[j], List.getElem_mem hj, rfl⟩)
  obtain ⟨x0, x1⟩ := hx2.2 0 (by simp)
  have HO := Lib.hid ho
  have HC := Lib.hid hcur2
  have HF := Lib.hid hof2
  have hw2 : w.heap.size < w2.heap.size := hx2.1
  have hbz : w1.heap.size ≤ w2.heap.size := hb2.size
  have HX := Lib.hid hx2
  clear hx1 hraw hsm hc hb2 ho hcur hcur2 hof1 hof2 hx2
  unfold violV
  have hy : Box (((w2.setCell ⟨w.heap.size, 0, none⟩ (.slice (some ⟨gm, 0, none⟩) ms.length cm)).alloc (.cells #[.slice (some ⟨gm, 0, none⟩) ms.length cm] 26)).alloc (.cells #[.int .i64 0, .int .i64 0, .int .i64 0] 144)) w.heap.size [.slice (some ⟨gm, 0, none⟩) ms.length cm] := ((HX.out.set 0 (.slice (some ⟨gm, 0, none⟩) ms.length cm)).alloc _).alloc _
  have hbS : Below w.heap.size w2 (((w2.setCell ⟨w.heap.size, 0, none⟩ (.slice (some ⟨gm, 0, none⟩) ms.length cm)).alloc (.cells #[.slice (some ⟨gm, 0, none⟩) ms.length cm] 26)).alloc (.cells #[.int .i64 0, .int .i64 0, .int .i64 0] 144)) := below_two ((Below.refl _ _).setCell (Nat.le_refl _) _) (Nat.le_trans (Nat.le_of_lt hw2) ((Below.refl w.heap.size w2).setCell (p := ⟨w.heap.size, 0, none⟩) (Nat.le_refl _) _).size) _ _
  obtain ⟨y0, _⟩ := hy.2 0 (by simp)
  simp only [List.getElem_cons_zero] at y0
  have HW : Hid (OwnRaw (((w2.setCell ⟨w.heap.size, 0, none⟩ (.slice (some ⟨gm, 0, none⟩) ms.length cm)).alloc (.cells #[.slice (some ⟨gm, 0, none⟩) ms.length cm] 26)).alloc (.cells #[.int .i64 0, .int .i64 0, .int .i64 0] 144)) (w.heap.size + 2) 113 117 (.slice (some ⟨gm, 0, none⟩) ms.length cm) ms ∧ Cur (((w2.setCell ⟨w.heap.size, 0, none⟩ (.slice (some ⟨gm, 0, none⟩) ms.length cm)).alloc (.cells #[.slice (some ⟨gm, 0, none⟩) ms.length cm] 26)).alloc (.cells #[.int .i64 0, .int .i64 0, .int .i64 0] 144)) B g a len cap ∧ Off w.heap.size g w (((w2.setCell ⟨w.heap.size, 0, none⟩ (.slice (some ⟨gm, 0, none⟩) ms.length cm)).alloc (.cells #[.slice (some ⟨gm, 0, none⟩) ms.length cm] 26)).alloc (.cells #[.int .i64 0, .int .i64 0, .int .i64 0] 144))) := Lib.hid
    ⟨(((HO.out.other (p := ⟨w.heap.size, 0, none⟩) _ (HO.out.out (k := w.heap.size) (by omega)).1 (HO.out.out (k := w.heap.size) (by omega)).2).alloc _).alloc _).base (by omega), HC.out.other (C := w.heap.size) hbS (by omega) (by omega), HF.out.trans (Below.off hbS)⟩
  have Hml := Lib.hid hml
  clear hy hbS hml
  go_wp2_with fail
  refine bodyPost_ret (v := .agg #[.slice (some ⟨gm, 0, none⟩) ms.length cm]) (by simp [results, Tryz.results87, go_sem, y0]) rfl ⟨_, ms, mr, ⟨⟨by have := Hml.out; omega, by have := Hml.out; omega, hfl⟩, hR, hp⟩, rfl, HW.out.1, HW.out.2.1, HW.out.2.2⟩
end Go.Proofs.YtpkofbdfnbpfpaaGreat.Num


/-
  What the draw of a bent plan (l6Bent) keeps: the plan's variable in a block of its own beside the description that the call owns; a message or a field more, another Id, another field. For any program.
-/
namespace Go.Proofs.YtpkofbdfnbpfpaaGreat.Num
open Go.RowKit Go.Proofs
set_option linter.unusedVariables false

/-- Where the walk stands: the plan's slice in block R beside the description. -/
structure Bt (w : World) (B g : Nat) (a : Option Addr) (len cap : Nat) (TM TF : TypeId) (u : Value) (ms : List OM) (R : Nat) (wx : World) : Prop where
  br : Box wx R [u]
  own : OwnRaw wx (w.heap.size + 3) TM TF u ms
  bz : Box wx w.heap.size [.slice none 0 0]
  cur : Cur wx B g a len cap
  off : Off w.heap.size g w wx
  lt : g < w.heap.size ∧ w.heap.size + 3 ≤ R ∧ B ≤ w.heap.size
  ap : u.ownBlock ≠ some R ∧ ∀ i (hi : i < ms.length), ms[i].2.1.ownBlock ≠ some R
section
variable {w wx wy : World} {B g : Nat} {a : Option Addr} {len cap : Nat} {TM TF : TypeId} {u : Value} {ms : List OM} {R : Nat}
theorem Bt.only (h : Bt w B g a len cap TM TF u ms R wx) (ho : Only g wx wy) (hc : Cur wy B g a len cap) : Bt w B g a len cap TM TF u ms R wy := by
  obtain ⟨h1, h2, h3⟩ := h.lt
  have hz := h.br.1
  exact ⟨Box.grown ho h.br (fun k hk => by have := Option.some.inj hk; omega), OwnRaw.only h.own ho (by omega), Box.grown ho h.bz (fun k hk => by have := Option.some.inj hk; omega), hc, h.off.trans (Only.off ho (by omega)), h.lt, h.ap⟩
theorem Bt.below (h : Bt w B g a len cap TM TF u ms R wx) (hb : Below wx.heap.size wx wy) : Bt w B g a len cap TM TF u ms R wy := by
  obtain ⟨h1, h2, h3⟩ := h.lt
  have hz := h.br.1
  exact ⟨h.br.below hb hz, OwnRaw.below h.own hb, h.bz.below hb (by omega), h.cur.other hb (by omega) (by omega), h.off.trans (Below.off (hb.mono (by omega))), h.lt, h.ap⟩
theorem Bt.alloc (h : Bt w B g a len cap TM TF u ms R wx) (o : Obj) : Bt w B g a len cap TM TF u ms R (wx.alloc o) := h.below ((Below.refl _ _).alloc (Nat.le_refl _) o)
theorem Bt.drew (h : Bt w B g a len cap TM TF u ms R wx) : Bt w B g a len cap TM TF u ms R wx.drew := h.below (Below.refl _ _).drew
/-- A cell of another block is written. -/
theorem Bt.other (h : Bt w B g a len cap TM TF u ms R wx) {p : Addr} (v : Value) (hv : u.ownBlock ≠ some p.block) (hf : ∀ i (hi : i < ms.length), ms[i].2.1.ownBlock ≠ some p.block) (hR : p.block ≠ R) (hp : w.heap.size + 1 ≤ p.block) : Bt w B g a len cap TM TF u ms R (wx.setCell p v) := by
  obtain ⟨h1, h2, h3⟩ := h.lt
  exact ⟨h.br.other hR v, h.own.other v hv hf, h.bz.other (by omega) v, h.cur.other (C := p.block) ((Below.refl _ _).setCell (Nat.le_refl _) v) (by omega) (by omega), h.off.trans (Below.off ((Below.refl _ _).setCell (by omega) v)), h.lt, h.ap⟩
/-- Another Id at a message. -/
theorem Bt.setId {gm n capm : Nat} (h : Bt w B g a len cap TM TF (.slice (some ⟨gm, 0, none⟩) n capm) ms R wx) (hn : ms.length = n) (i : Nat) (hi : i < ms.length) (id : Int) :
    Bt w B g a len cap TM TF (.slice (some ⟨gm, 0, none⟩) n capm) (ms.set i (id, ms[i].2)) R (wx.setCell ⟨gm, i * 2, none⟩ (.int .i64 id)) := by
  obtain ⟨h1, h2, h3⟩ := h.lt
  subst hn
  have hgm : w.heap.size + 3 ≤ gm := (h.own.row.lt gm rfl).1
  have hR : gm ≠ R := fun e => h.ap.1 (by rw [e]; rfl)
  refine ⟨h.br.other hR _, h.own.setId i hi id, h.bz.other (by simp; omega) _, h.cur.other (C := gm) ((Below.refl _ _).setCell (by simp) _) (by omega) (by omega), h.off.trans (Below.off ((Below.refl _ _).setCell (by simp; omega) _)), h.lt, h.ap.1, fun j hj => ?_⟩
  have hj' : j < ms.length := by rw [List.length_set] at hj; exact hj
  rw [List.getElem_set]
  split
  · rename_i e; subst e; exact h.ap.2 i hi
  · exact h.ap.2 j hj'
/-- What is read where the messages' row has grown. -/
theorem bt_cells {w2 : World} (h : Bt w B g a len cap TM TF u ms R wx) (o : Obj) (hg : (wx.alloc o).grownBy w2 u.ownBlock) : w2.cell? ⟨R, 0, none⟩ = some u ∧ w2.frozen? ⟨R, 0, none⟩ = false :=
  (Box.grown hg (h.alloc o).br (fun j hj e => h.ap.1 (by rw [hj, e]))).2 0 (by simp)
/-- A message more. -/
theorem bt_push {w2 : World} (h : Bt w B g a len cap TM TF u ms R wx) (o : Obj) (hg : (wx.alloc o).grownBy w2 u.ownBlock) (id : Int) (g' cap' : Nat) (h2 : w2.ownsRow (w.heap.size + 3) TM 2 (.slice (some ⟨g', 0, none⟩) (ms.length + 1) cap') (ms.length + 1) (ms.flatMap msgC ++ [.int .i64 id, .slice none 0 0])) (hor : u.ownBlock = some g' ∨ g' = wx.heap.size + 1) :
    Bt w B g a len cap TM TF (.slice (some ⟨g', 0, none⟩) (ms.length + 1) cap') (ms ++ [(id, .slice none 0 0, [])]) R (w2.setCell ⟨R, 0, none⟩ (.slice (some ⟨g', 0, none⟩) (ms.length + 1) cap')) := by
  obtain ⟨l1, l2, l3⟩ := h.lt
  have hz := h.br.1
  have h1 := h.alloc o
  have hgr : ∀ k, u.ownBlock = some k → w.heap.size + 3 ≤ k := fun k hk => (h.own.row.lt k hk).1
  have hp := OwnRaw.push h1.own (by simp; omega) h2 hg (by rcases hor with e | e; exact .inl e.symm; exact .inr (by simp [Value.ownBlock, e]))
  have hb2 : Below (w.heap.size + 3) wx w2 := Below.grown (Below.alloc (Below.refl _ _) (by omega) o) hg (by simp; omega) hgr
  have hb3 : Below (w.heap.size + 3) wx (w2.setCell ⟨R, 0, none⟩ (.slice (some ⟨g', 0, none⟩) (ms.length + 1) cap')) := hb2.setCell l2 _
  have hgR : g' ≠ R := by
    rcases hor with e | e
    · exact fun c => h.ap.1 (by rw [e, c])
    · omega
  have hap : (Value.slice (some ⟨g', 0, none⟩) (ms.length + 1) cap').ownBlock ≠ some R ∧ ∀ i (hi : i < (ms ++ [((id : Int), Value.slice none 0 0, ([] : List RF))]).length), (ms ++ [((id : Int), Value.slice none 0 0, ([] : List RF))])[i].2.1.ownBlock ≠ some R := by
    refine ⟨by simp [Value.ownBlock, hgR], fun i hi => ?_⟩
    by_cases e : i < ms.length
    · rw [List.getElem_append_left e]; exact h.ap.2 i e
    · obtain rfl : i = ms.length := by simp at hi; omega
      rw [List.getElem_append_right (by omega)]; simp [Value.ownBlock]
  exact ⟨(Box.grown hg h1.br (fun j hj e => h.ap.1 (by rw [hj, e]))).set 0 _, hp.other _ hap.1 hap.2, h.bz.below hb3 (by omega), h.cur.other hb3 (by omega) (by omega), h.off.trans (Below.off (hb3.mono (by omega))), h.lt, hap⟩
end
end Go.Proofs.YtpkofbdfnbpfpaaGreat.Num


/-
  What the draw of a bent schema (l8Bent) keeps: one cell of a message's first field, a field more in a world that already has the new field. For any program.
-/
namespace Go.Proofs.YtpkofbdfnbpfpaaGreat.Num
open Go.RowKit Go.Proofs
set_option linter.unusedVariables false
section
variable {w wx wy : World} {B g : Nat} {a : Option Addr} {len cap : Nat} {TM TF : TypeId} {u : Value} {ms : List OM} {R : Nat}
theorem flat_set1 : ∀ (fs : List RF) (h : 0 < fs.length) (c : Nat) (hc : c < 5) (v : Value) (f : RF) (hf : fieldC f = (fieldC fs[0]).set c v), (fs.flatMap fieldC).set c v = (fs.set 0 f).flatMap fieldC
  | b :: fs, h, c, hc, v, f, hf => by
    have hf' : fieldC f = (fieldC b).set c v := hf
    simp only [List.flatMap_cons, List.set_cons_zero]
    rw [hf', List.set_append, if_pos (by simpa [fieldC] using hc)]
/-- One cell of the first field of a message is written. -/
theorem bt_put1 {gm n capm gf capf : Nat} (h : Bt w B g a len cap TM TF (.slice (some ⟨gm, 0, none⟩) n capm) ms R wx) (k : Nat) (hk : k < ms.length) (hu : ms[k].2.1 = .slice (some ⟨gf, 0, none⟩) ms[k].2.2.length capf) (hq : 0 < ms[k].2.2.length) (c : Nat) (hc : c < 5) (v : Value) (f : RF) (hf : fieldC f = (fieldC ms[k].2.2[0]).set c v) :
    Bt w B g a len cap TM TF (.slice (some ⟨gm, 0, none⟩) n capm) (ms.set k (ms[k].1, ms[k].2.1, ms[k].2.2.set 0 f)) R (wx.setCell ⟨gf, c, none⟩ v) := by
  obtain ⟨l1, l2, l3⟩ := h.lt
  have hrow : wx.ownsRow (w.heap.size + 3) TF 5 ms[k].2.1 ms[k].2.2.length (ms[k].2.2.flatMap fieldC) := h.own.fields k hk
  have hgf : w.heap.size + 3 ≤ gf ∧ gf < wx.heap.size := hrow.lt gf (by rw [hu]; rfl)
  have hR : gf ≠ R := fun e => h.ap.2 k hk (by rw [hu, e]; rfl)
  rw [hu] at hrow
  obtain ⟨p1, p2⟩ := hrow.stored c v
  rw [flat_set1 _ hq c hc v f hf] at p1
  have hb : Below (w.heap.size + 3) wx (wx.setCell ⟨gf, c, none⟩ v) := (Below.refl _ _).setCell (by simp; omega) v
  refine ⟨Box.grown p2 h.br (fun j hj e => hR (by have := Option.some.inj hj; omega)), ?_, h.bz.below hb (by omega), h.cur.other hb (by omega) (by omega), h.off.trans (Below.off (hb.mono (by omega))), h.lt, h.ap.1, fun j hj => ?_⟩
  · refine OwnRaw.setFields h.own k hk ?_ ?_
    · rw [hu, List.length_set]; exact p1
    · rw [hu]; exact p2
  · have hj' : j < ms.length := by rw [List.length_set] at hj; exact hj
    rw [List.getElem_set]
    split
    · rename_i e; subst e; exact h.ap.2 k hk
    · exact h.ap.2 j hj'
/-- What is read where a fields' row has grown. -/
theorem bt_cellsW {w2 : World} {gm n capm : Nat} (h : Bt w B g a len cap TM TF (.slice (some ⟨gm, 0, none⟩) n capm) ms R wx) (hn : ms.length = n) (k : Nat) (hk : k < ms.length) (hg : wx.grownBy w2 ms[k].2.1.ownBlock) :
    w2.cell? ⟨R, 0, none⟩ = some (.slice (some ⟨gm, 0, none⟩) n capm) ∧ w2.cell? ⟨gm, k * 2 + 1, none⟩ = some ms[k].2.1 ∧ w2.frozen? ⟨gm, k * 2 + 1, none⟩ = false := by
  have hb := Box.grown hg h.br (fun j hj e => h.ap.2 k hk (by rw [hj, e]))
  have hgl : gm < wx.heap.size := (h.own.row.lt gm rfl).2
  have hne : some gm ≠ ms[k].2.1.ownBlock := by
    rcases h.own.apart k hk with e | e
    · rw [e]; simp
    · exact fun c => e c.symm
  have hbk := hg.block gm hgl hne
  obtain ⟨_, c1, _, c3⟩ := h.own.cellsAt hn k hk
  exact ⟨(hb.2 0 (by simp)).1, (World.cell?_of_block (a := ⟨gm, k * 2 + 1, none⟩) hbk).trans c1, (World.frozen?_of_block (a := ⟨gm, k * 2 + 1, none⟩) hbk).trans c3⟩
/-- A field more. -/
theorem bt_fieldW {w2 : World} {gm n capm : Nat} (h : Bt w B g a len cap TM TF (.slice (some ⟨gm, 0, none⟩) n capm) ms R wx) (hn : ms.length = n) (k : Nat) (hk : k < ms.length)
    (hg : wx.grownBy w2 ms[k].2.1.ownBlock) (f : RF) (g' cap' : Nat) (h2 : w2.ownsRow (w.heap.size + 3) TF 5 (.slice (some ⟨g', 0, none⟩) (ms[k].2.2.length + 1) cap') (ms[k].2.2.length + 1) (ms[k].2.2.flatMap fieldC ++ fieldC f)) (hor : ms[k].2.1.ownBlock = some g' ∨ g' = wx.heap.size) :
    Bt w B g a len cap TM TF (.slice (some ⟨gm, 0, none⟩) n capm) (ms.set k (ms[k].1, .slice (some ⟨g', 0, none⟩) (ms[k].2.2.length + 1) cap', ms[k].2.2 ++ [f])) R (w2.setCell ⟨gm, k * 2 + 1, none⟩ (.slice (some ⟨g', 0, none⟩) (ms[k].2.2.length + 1) cap')) := by
  obtain ⟨l1, l2, l3⟩ := h.lt
  have hz := h.br.1
  have hgm : w.heap.size + 3 ≤ gm := (h.own.row.lt gm rfl).1
  have hR : gm ≠ R := fun e => h.ap.1 (by rw [e]; rfl)
  have hb2 : Below (w.heap.size + 3) wx w2 := Below.grown (Below.refl _ _) hg (by omega) (fun j hj => (World.ownsRow.lt (h.own.fields k hk) j hj).1)
  have hb3 : Below (w.heap.size + 3) wx (w2.setCell ⟨gm, k * 2 + 1, none⟩ (.slice (some ⟨g', 0, none⟩) (ms[k].2.2.length + 1) cap')) := hb2.setCell hgm _
  have hgR : g' ≠ R := by
    rcases hor with e | e
    · exact fun c => h.ap.2 k hk (by rw [e, c])
    · omega
  refine ⟨(Box.grown hg h.br (fun j hj e => h.ap.2 k hk (by rw [hj, e]))).other hR _, ?_, h.bz.below hb3 (by omega), h.cur.other hb3 (by omega) (by omega), h.off.trans (Below.off (hb3.mono (by omega))), h.lt, h.ap.1, fun j hj => ?_⟩
  · subst hn
    exact OwnRaw.pushField h.own k hk h2 hg (by
      rcases hor with e | e
      · exact .inl e.symm
      · exact .inr (by simp [Value.ownBlock, e]))
  · have hj' : j < ms.length := by rw [List.length_set] at hj; exact hj
    rw [List.getElem_set]
    split
    · simp [Value.ownBlock, hgR]
    · exact h.ap.2 j hj'
end
end Go.Proofs.YtpkofbdfnbpfpaaGreat.Num


/-
  Statements whose order of evaluation is open: a condition on the world that is asked till one operation (a store, mostly) has come up, behind which nothing is read any more. For any program.
-/
namespace Go.Proofs.YtpkofbdfnbpfpaaGreat.Num
open Go
section
variable {P : Program} {ops : Array Oper} {Q : Exit → Act → World → Prop} {md : Region.Mode} {T : World → Prop} {s : Nat}
/-- Whatever order is picked from here on; T holds behind each operation till number s has come up. -/
def wpAnyS (P : Program) (md : Region.Mode) (ops : Array Oper) (Q : Exit → Act → World → Prop) (T : World → Prop) (s : Nat) : Nat → Array Bool → Act → World → Prop
  | 0, listed, a, w => Region.ready md ops listed = [] ∧ Q .normal a w
  | fuel + 1, listed, a, w =>
    (Region.ready md ops listed = [] → Q .normal a w) ∧
    ∀ i ∈ Region.ready md ops listed, wpOp P ops Q i (fun a' w' => (i = s ∨ listed.getD s true = true ∨ T w') ∧ wpAnyS P md ops Q T s fuel (listed.setIfInBounds i true) a' w') a w
theorem wpAny_of_S : ∀ (fuel : Nat) (listed : Array Bool) (a : Act) (w : World), wpAnyS P md ops Q T s fuel listed a w → wpAny P md ops Q fuel listed a w
  | 0, _, _, _, h => h
  | fuel + 1, _, _, _, h => ⟨h.1, fun i hi => wpOp_mono (fun a' w' h' => wpAny_of_S fuel _ a' w' h'.2) (h.2 i hi)⟩
/-- Each of the numbers waits for the one ahead of it. -/
def chainB (md : Region.Mode) (ops : Array Oper) : List Nat → Bool
  | x :: y :: r => (match ops[y]? with | some o => o.after.any (fun e => Region.binds md e && e.on == x) | none => false) && chainB md ops (y :: r)
  | _ => true
def Unl (listed : Array Bool) (c : List Nat) : Prop := ∀ x ∈ c, listed.getD x true = false
theorem not_late {listed : Array Bool} {j : Nat} (hj : j ∈ Region.ready md ops listed) : ∀ (x : Nat) (c : List Nat), chainB md ops (x :: c) = true → Unl listed (x :: c) → ∀ y ∈ c, y ≠ j
  | _, [], _, _, y, hy => by simp at hy
  | x, z :: c, hc, hu, y, hy => by
    unfold chainB at hc
    rw [Bool.and_eq_true] at hc
    rcases List.mem_cons.1 hy with rfl | hy
    · rintro rfl
      obtain ⟨_, o, ho, hall⟩ := mem_ready.1 hj
      rw [ho] at hc
      obtain ⟨e, he, hb⟩ := Array.any_eq_true'.1 hc.1
      simp only [Bool.and_eq_true, beq_iff_eq] at hb
      have h1 := hall e he hb.1
      have h0 := hu x List.mem_cons_self
      rw [hb.2] at h1
      rcases Nat.lt_or_ge x listed.size with h' | h'
      · simp [h'] at h0 h1; rw [h0] at h1; cases h1
      · simp [Array.getElem?_eq_none h'] at h1
    · exact not_late hj z c hc.2 (fun q hq => hu q (List.mem_cons_of_mem _ hq)) y hy
theorem wpAnyS_first {i : Nat} {oi : Oper} {v : Value} {c : List Nat} (hi : ops[i]? = some oi) (hsel : ∀ (j : Nat) (o : Oper) cs b, ops[j]? = some o → o.op ≠ .select cs b)
    (hQ : ∀ c a w, Q (.panic c) (a.put oi.dst v) w → Q (.panic c) a w) (hc : chainB md ops (i :: c) = true) (hs : s ∈ c) (his : i ≠ s) :
    ∀ (fuel : Nat) (listed : Array Bool) (a : Act) (w : World),
      (∀ j oj, ops[j]? = some oj → j ≠ i → listed.getD j true = false → (∀ e ∈ oj.after, Region.binds md e = true → e.on ≠ i) → oi.apart ops oj = true) →
      i ∈ Region.ready md ops listed → Unl listed (i :: c) → YieldsIf P ops T oi v a → T w →
      wpAnyS P md ops Q T s fuel (listed.setIfInBounds i true) (a.put oi.dst v) w → wpAnyS P md ops Q T s (fuel + 1) listed a w := by
  intro fuel
  induction fuel with
  | zero =>
    intro listed a w _ hr hu hy hT H
    refine ⟨fun h => (by rw [h] at hr; cases hr), fun j hj => ?_⟩
    by_cases hji : j = i
    · subst hji; exact hy.wpOp hi hT ⟨.inr (.inr hT), H⟩
    · have := ready_mono hj hji
      rw [H.1] at this
      cases this
  | succ fuel ih =>
    intro listed a w hfree hr hu hy hT H
    refine ⟨fun h => (by rw [h] at hr; cases hr), fun j hj => ?_⟩
    by_cases hji : j = i
    · subst hji; exact hy.wpOp hi hT ⟨.inr (.inr hT), H⟩
    · have h1 := H.2 j (ready_mono hj hji)
      have hjs : j ≠ s := fun e => not_late hj i c hc hu s hs e.symm
      obtain ⟨hjun, oj, hoj, hall⟩ := mem_ready.1 hj
      have hnot : ∀ e ∈ oj.after, Region.binds md e = true → e.on ≠ i := fun e he hb heq => by
        have h1 := hall e he hb
        have h0 := (mem_ready.1 hr).1
        rw [heq] at h1
        rcases Nat.lt_or_ge i listed.size with h' | h'
        · simp [h'] at h0 h1; rw [h0] at h1; cases h1
        · simp [Array.getElem?_eq_none h'] at h1
      have h2 := wpOp_putIf hoj (hfree j oj hoj hji hjun hnot) (fun cs b => hsel i oi cs b hi) (fun cs b => hsel j oj cs b hoj) hQ hy h1
      have hfree' : ∀ k ok, ops[k]? = some ok → k ≠ i → (listed.setIfInBounds j true).getD k true = false →
          (∀ e ∈ ok.after, Region.binds md e = true → e.on ≠ i) → oi.apart ops ok = true := fun k ok hk hki hun hno => by
        refine hfree k ok hk hki ?_ hno
        by_cases hjk : j = k
        · subst hjk; exact hjun
        · rw [getD_set_ne true hjk] at hun; exact hun
      have hu' : Unl (listed.setIfInBounds j true) (i :: c) := fun x hx => by
        have hxj : j ≠ x := by
          rcases List.mem_cons.1 hx with rfl | hx
          · exact hji
          · exact fun e => not_late hj i c hc hu x hx e.symm
        rw [getD_set_ne true hxj]; exact hu x hx
      have hsu : (listed.setIfInBounds i true).getD s true = false := by rw [getD_set_ne true his]; exact hu s (List.mem_cons_of_mem _ hs)
      refine wpOp_mono (fun a' w' h3 => ?_) h2
      have hT' : T w' := by
        rcases h3.2.1 with h | h | h
        · exact absurd h hjs
        · rw [hsu] at h; cases h
        · exact h
      refine ⟨.inr (.inr hT'), ih (listed.setIfInBounds j true) a' w' hfree' (ready_mono hr (Ne.symm hji)) hu' h3.1 hT' ?_⟩
      rw [Array.setIfInBounds_comm _ _ hji]
      exact h3.2.2
/-- Take number i first: what it yields in every world that meets T; c: a chain of numbers, each waiting for the one ahead, from i on to s. -/
theorem wpAnyS_take {i : Nat} {oi : Oper} {v : Value} {fuel : Nat} {listed : Array Bool} {a : Act} {w : World} (c : List Nat) (hi : ops[i]? = some oi)
    (hn : Region.noSelect ops = true) (hf : Region.free md ops listed i = true) (hr : (Region.ready md ops listed).contains i = true)
    (hc : (chainB md ops (i :: c) && c.contains s && !(i == s) && (i :: c).all fun x => !listed.getD x true) = true)
    (hQ : ∀ c a w, Q (.panic c) (a.put oi.dst v) w → Q (.panic c) a w) (hy : YieldsIf P ops T oi v a) (hT : T w)
    (h : wpAnyS P md ops Q T s fuel (listed.setIfInBounds i true) (a.put oi.dst v) w) : wpAnyS P md ops Q T s (fuel + 1) listed a w := by
  simp only [Bool.and_eq_true, Bool.not_eq_true', List.all_eq_true, beq_eq_false_iff_ne, List.contains_iff_mem] at hc
  obtain ⟨⟨⟨h1, h2⟩, h3⟩, h4⟩ := hc
  exact wpAnyS_first hi (Region.noSelect_spec hn) hQ h1 h2 h3 fuel listed a w (Region.free_spec hi hf) (by simpa using hr) (fun x hx => h4 x hx) hy hT h
/-- The only one that may come up now, ahead of s: T is to be shown behind it. -/
theorem wpAnyS_one {i : Nat} {o : Oper} {fuel : Nat} {listed : Array Bool} {a : Act} {w : World} (hr : Region.ready md ops listed = [i]) (ho : ops[i]? = some o)
    (h : ∀ K' : Act → World → Prop, Shut (∀ a w, T w → (T w → wpAnyS P md ops Q T s fuel (listed.setIfInBounds i true) a w) → K' a w) → if Region.wanted o (yielded ops a.tmps) = true then Oper.wp P o a w K' Q else K' (a.put o.dst undef) w) :
    wpAnyS P md ops Q T s (fuel + 1) listed a w :=
  ⟨fun h0 => (by rw [hr] at h0; cases h0), fun j hj => by
    rw [hr] at hj
    obtain rfl := List.mem_singleton.1 hj
    exact wpOp_step ho (fun K' hK => h K' (fun a w hS hW => hK a w ⟨.inr (.inr hS), hW hS⟩))⟩
/-- Number s, where nothing else may come up: nothing is asked behind it. -/
theorem wpAnyS_last {o : Oper} {fuel : Nat} {listed : Array Bool} {a : Act} {w : World} (hr : Region.ready md ops listed = [s]) (ho : ops[s]? = some o)
    (h : ∀ K' : Act → World → Prop, Shut (∀ a w, wpAnyS P md ops Q T s fuel (listed.setIfInBounds s true) a w → K' a w) → if Region.wanted o (yielded ops a.tmps) = true then Oper.wp P o a w K' Q else K' (a.put o.dst undef) w) :
    wpAnyS P md ops Q T s (fuel + 1) listed a w :=
  ⟨fun h0 => (by rw [hr] at h0; cases h0), fun j hj => by
    rw [hr] at hj
    obtain rfl := List.mem_singleton.1 hj
    exact wpOp_step ho (fun K' hK => h K' (fun a w hW => hK a w ⟨.inl rfl, hW⟩))⟩
theorem wpAnyS_done {listed : Array Bool} {a : Act} {w : World} (hr : Region.ready md ops listed = []) (h : Q .normal a w) : ∀ fuel, wpAnyS P md ops Q T s fuel listed a w
  | 0 => ⟨hr, h⟩
  | _ + 1 => ⟨fun _ => h, by rw [hr]; simp⟩
theorem wp_region_S {id : Nat} {a : Act} {w : World} (T : World → Prop) (s : Nat) (hm : P.follows .mixedOrders = true) (hT : T w.drew)
    (h : T w.drew → wpAnyS P .any ops Q T s ops.size (Array.replicate ops.size false) a w.drew) : (Code.region id ops true).wp P Q a w :=
  wp_region_any hm (wpAny_of_S _ _ _ _ (h hT))
end
end Go.Proofs.YtpkofbdfnbpfpaaGreat.Num


/-
  The walk of the reference's draw of a bent plan (l6Bent): some description that the call owns, its sizes bounded; nothing that was there is written but the cursor.
-/
namespace Go.Proofs.YtpkofbdfnbpfpaaGreat.Num
open Go.RowKit Go.Proofs
set_option linter.unusedVariables false

theorem Off.only {g : Nat} {w w' : World} (h : Off w.heap.size g w w') : Only g w w' :=
  ⟨h.os, h.tape, h.output, h.size, fun k hk hn => h.block k hk (fun e => hn (by rw [e]))⟩
theorem len_set {ms : List OM} {n m : Nat} (h : ∀ j (hj : j < ms.length), ms[j].2.2.length ≤ n) (k : Nat) (x : OM) (hx : x.2.2.length ≤ m) (hnm : n ≤ m) : ∀ j (hj : j < (ms.set k x).length), (ms.set k x)[j].2.2.length ≤ m := by
  intro j hj
  have hj' : j < ms.length := by rw [List.length_set] at hj; exact hj
  rw [List.getElem_set]
  split
  · exact hx
  · exact Nat.le_trans (h j hj') hnm
theorem len_push {ms : List OM} {n : Nat} (h : ∀ j (hj : j < ms.length), ms[j].2.2.length ≤ n) (x : OM) (hx : x.2.2.length ≤ n) : ∀ j (hj : j < (ms ++ [x]).length), (ms ++ [x])[j].2.2.length ≤ n := by
  intro j hj
  by_cases e : j < ms.length
  · rw [List.getElem_append_left e]; exact h j e
  · obtain rfl : j = ms.length := by simp at hj; omega
    rw [List.getElem_append_right (by omega)]
    simpa using hx
def lenAt (w : World) (R : Nat) : Nat := match w.cell? ⟨R, 0, none⟩ with | some (.slice _ n _) => n | _ => 0
theorem lenAt_of {w : World} {R n cap : Nat} {a : Option Addr} (h : Box w R [.slice a n cap]) : lenAt w R = n := by
  unfold lenAt; rw [(h.2 0 (by simp)).1]; rfl
theorem fcells {w : World} {D gf n cap : Nat} {TF : TypeId} {fs : List RF} (h : w.ownsRow D TF 5 (.slice (some ⟨gf, 0, none⟩) n cap) n (fs.flatMap fieldC)) (hn : fs.length = n) (q : Nat) (hq : q < fs.length) :
    w.cell? ⟨gf, q * 5, none⟩ = some (.int .i64 fs[q].1) ∧ w.cell? ⟨gf, q * 5 + 1, none⟩ = some (.int .i64 fs[q].2.1) ∧ w.cell? ⟨gf, q * 5 + 2, none⟩ = some (.bool fs[q].2.2.1) ∧ w.cell? ⟨gf, q * 5 + 3, none⟩ = some (.bool fs[q].2.2.2.1) ∧ w.cell? ⟨gf, q * 5 + 4, none⟩ = some (.int .i64 fs[q].2.2.2.2) ∧
    w.frozen? ⟨gf, q * 5, none⟩ = false ∧ w.frozen? ⟨gf, q * 5 + 1, none⟩ = false ∧ w.frozen? ⟨gf, q * 5 + 2, none⟩ = false ∧ w.frozen? ⟨gf, q * 5 + 3, none⟩ = false ∧ w.frozen? ⟨gf, q * 5 + 4, none⟩ = false := by
  subst hn
  have h2 : (q + 1) * 5 ≤ fs.length * 5 := Nat.mul_le_mul_right _ hq
  refine ⟨?_, ?_, ?_, ?_, ?_, h.frozenAt _, h.frozenAt _, h.frozenAt _, h.frozenAt _, h.frozenAt _⟩
  · rw [h.cellAt _ (by omega)]; exact (flat_get (f := fieldC) (sz := 5) (fun _ => rfl) fs q hq 0 (by omega)).trans rfl
  · rw [h.cellAt _ (by omega)]; exact (flat_get (f := fieldC) (sz := 5) (fun _ => rfl) fs q hq 1 (by omega)).trans rfl
  · rw [h.cellAt _ (by omega)]; exact (flat_get (f := fieldC) (sz := 5) (fun _ => rfl) fs q hq 2 (by omega)).trans rfl
  · rw [h.cellAt _ (by omega)]; exact (flat_get (f := fieldC) (sz := 5) (fun _ => rfl) fs q hq 3 (by omega)).trans rfl
  · rw [h.cellAt _ (by omega)]; exact (flat_get (f := fieldC) (sz := 5) (fun _ => rfl) fs q hq 4 (by omega)).trans rfl
end Go.Proofs.YtpkofbdfnbpfpaaGreat.Num


/-
  The walk of the reference's draw of a bent schema (l8Bent): some schema that the call owns, its sizes bounded; nothing that was there is written but the cursor.
-/
namespace Go.Proofs.YtpkofbdfnbpfpaaGreat.Num
open Go.RowKit Go.Proofs
set_option linter.unusedVariables false
set_option linter.unusedSimpArgs false

/-- The schema that l8Bent gives: its sizes. -/
def SchSz (ms : List OM) : Prop := 0 < ms.length ∧ ms.length ≤ 7 ∧ ∀ j (hj : j < ms.length), ms[j].2.2.length ≤ 6
theorem bs_end {w wx : World} {B g : Nat} {a : Option Addr} {len cap : Nat} {TM TF : TypeId} {u : Value} {ms : List OM} {R : Nat} (h : Bt w B g a len cap TM TF u ms R wx) (hs : SchSz ms) (x : Value) :
    ∃ (v : Value) (ms : List OM), SchSz ms ∧ Ending.returned (.agg #[u]) = .returned (.agg #[v]) ∧ OwnRaw (wx.setCell ⟨w.heap.size, 0, none⟩ x) (w.heap.size + 3) TM TF v ms ∧ Cur (wx.setCell ⟨w.heap.size, 0, none⟩ x) B g a len cap ∧ Off w.heap.size g w (wx.setCell ⟨w.heap.size, 0, none⟩ x) := by
  obtain ⟨l1, l2, l3⟩ := h.lt
  exact ⟨u, ms, hs, rfl, h.own.other _ (h.own.out (k := w.heap.size) (by omega)).1 (h.own.out (k := w.heap.size) (by omega)).2, h.cur.other (C := w.heap.size) ((Below.refl _ _).setCell (by simp) _) (by omega) (by omega), h.off.trans (Below.off ((Below.refl _ _).setCell (by simp) _))⟩
theorem bt_S {w wx : World} {B g : Nat} {a : Option Addr} {len cap : Nat} {TM TF : TypeId} {gm n capm : Nat} {ms : List OM} {R : Nat} (h : Bt w B g a len cap TM TF (.slice (some ⟨gm, 0, none⟩) n capm) ms R wx) (hn : ms.length = n) (k : Nat) (hk : k < ms.length) :
    wx.cell? ⟨R, 0, none⟩ = some (.slice (some ⟨gm, 0, none⟩) n capm) ∧ wx.cell? ⟨gm, k * 2 + 1, none⟩ = some ms[k].2.1 :=
  ⟨(h.br.2 0 (by simp)).1, (h.own.cellsAt hn k hk).2.1⟩
set_option maxHeartbeats 8000000 in
set_option maxRecDepth 100000 in
theorem l8Bent_any (B g : Nat) (a : Option Addr) (len cap : Nat) (w : World) (h : Cur w B g a len cap) (hB : B ≤ w.heap.size) (hg : g < w.heap.size) :
    Calls Tryz.prog 92 #[.pointer (some ⟨g, 0, none⟩)] w fun e w' => ∃ (v : Value) (ms : List OM), SchSz ms ∧ e = .returned (.agg #[v]) ∧ OwnRaw w' (w.heap.size + 3) 113 117 v ms ∧ Cur w' B g a len cap ∧ Off w.heap.size g w w' := by
  have H := Lib.hid h; clear h
  have hgB : B ≤ g := H.out.choose_spec.choose_spec.1
  obtain ⟨i0, hi, hz0, hz1, hz2⟩ : ∃ i : TypeInfo, Tryz.prog.info? 113 = some i ∧ i.zero = some (.agg #[.int .i64 0, .slice none 0 0]) ∧ i.size = 2 ∧ i.bytes = 32 := ⟨_, by rfl, by rfl, by rfl, by rfl⟩
  obtain ⟨j0, hj, hj0, hj1, hj2⟩ : ∃ i : TypeInfo, Tryz.prog.info? 117 = some i ∧ i.zero = some (.agg #[.int .i64 0, .int .i64 0, .bool false, .bool false, .int .i64 0]) ∧ i.size = 5 ∧ i.bytes = 32 := ⟨_, by rfl, by rfl, by rfl, by rfl⟩
  go_enter Tryz.func92, Tryz.ntmps92
  go_wp2_with fail
  refine (l8Right_any B g a len cap _ (H.out.other ((Below.refl w.heap.size w).alloc (Nat.le_refl _) _) (by omega) (by omega)) (by simp; omega) (by simp; omega)).mono ?_
  rintro e w1 ⟨v, ms, mr, ⟨⟨hm0, hm1, hf5⟩, _, _⟩, rfl, hown, hcur, hoff⟩
  have hown1 : OwnRaw w1 (w.heap.size + 3) 113 117 v ms := by simpa using hown
  obtain ⟨gm, capm, hv, hgm1, hgm2⟩ := World.ownsRow.form hown1.row hm0
  subst hv
  obtain ⟨R, hR⟩ : ∃ R, R = w1.heap.size := ⟨_, rfl⟩
  obtain ⟨N, hN⟩ : ∃ N, N = ms.length := ⟨_, rfl⟩
  have hS1 : Hid (Bt w B g a len cap 113 117 (.slice (some ⟨gm, 0, none⟩) ms.length capm) ms R (w1.alloc (.cells #[.slice (some ⟨gm, 0, none⟩) ms.length capm] 26))) := by
    have hbz : Box w1 w.heap.size [.slice none 0 0] := Box.offAt hoff (Box.fresh w _ _) (by simp) (by omega)
    exact Lib.hid ⟨by rw [hR]; exact Box.fresh w1 _ _, hown1.alloc _, hbz.alloc _, hcur.other ((Below.refl w1.heap.size _).alloc (Nat.le_refl _) _) (by omega) (by omega), (Below.off ((Below.refl w.heap.size w).alloc (Nat.le_refl _) _)).trans ((hoff.mono (by simp)).trans (Below.off ((Below.refl _ _).alloc (by omega) _))), ⟨hg, by omega, hB⟩, by rw [hR]; exact hown1.new⟩
  have hms : Hid (ms.length = N) := Lib.hid hN.symm
  rw [← hN] at hS1
  rw [← hN]
  have hRw : w.heap.size + 3 ≤ R := hS1.out.lt.2.1
  have hN1 : 0 < N := by omega
  have hN4 : N ≤ 4 := by omega
  clear hown hcur hoff hown1 hm0 hm1 hN
  go_wp2_with fail
  rw [← hR]
  clear hR
  refine (l1Below_any B g a len cap _ _ hS1.out.cur (by omega)).mono ?_
  rintro e w2 ⟨m, m0, m1, rfl, hc2, ho2⟩
  obtain ⟨M, rfl⟩ := Int.eq_ofNat_of_zero_le m0
  have hM : M < N := by have := m1 (by omega); omega
  have hS2 := Lib.hid (hS1.out.only ho2 hc2)
  clear hS1 m0 m1 hc2 ho2
  go_wp2_with fail
  refine (l1Below_any B g a len cap _ _ hS2.out.cur (by omega)).mono ?_
  rintro e w4 ⟨x, x0, x1, rfl, hc4, ho4⟩
  have hx : x < 10 := x1 (by omega)
  have hS4 := Lib.hid (hS2.out.only ho4 hc4)
  clear hS2 hc4 ho4 x1
  have hMl : M < ms.length := by have := hms.out; omega
  have hMi : (M : Int) < (N : Int) := by omega
  have hRl := hS4.out.br.1
  have hSame : SchSz ms := ⟨by have := hms.out; omega, by have := hms.out; omega, fun j hj => Nat.le_trans (hf5 j hj) (by omega)⟩
  by_cases hx5 : 5 ≤ x
  · obtain ⟨q0, q1⟩ := hS4.out.br.2 0 (by simp)
    obtain ⟨z0, z1⟩ := hS4.out.bz.2 0 (by simp)
    have e0 : (x = 0) = False := eq_false (by omega)
    have e1 : (x = 1) = False := eq_false (by omega)
    have e2 : (x = 2) = False := eq_false (by omega)
    have e3 : (x = 3) = False := eq_false (by omega)
    have e4 : (x = 4) = False := eq_false (by omega)
    go_wp2_with fail
    refine bodyPost_ret (v := .agg #[.slice (some ⟨gm, 0, none⟩) N capm]) (by simp [results, Tryz.results92, go_sem, z0]) rfl (bs_end hS4.out hSame _)
  obtain rfl | rfl | rfl | rfl | rfl : x = 0 ∨ x = 1 ∨ x = 2 ∨ x = 3 ∨ x = 4 := by omega
  · -- another Id
    obtain ⟨c0, f0⟩ := hS4.out.br.2 0 (by simp)
    go_wp2_with fail
    go_region_with (go_at_call 60; go_loud (refine (l1PickInt_any _ g a len cap _ 4 4 [0, 5, 100, -1] _ _ _ _ (hS4.out.drew.alloc _).cur (heap_alloc_new _ _) rfl rfl (by omega) (by omega) (by show w4.heap.size ≠ g; omega)).mono ?_); go_loud (rintro e w10 ⟨z, hz, rfl, hc10, ho10⟩); go_loud (have hS10 := Lib.hid ((hS4.out.drew.alloc _).only ho10 hc10)); go_loud (obtain ⟨m0, m1, m2, m3⟩ := hS10.out.own.cellsAt hms.out M (by have := hms.out; omega)); go_loud (obtain ⟨d0, q0⟩ := hS10.out.br.2 0 (by simp)); go_loud (have hSid := Lib.hid (hS10.out.setId hms.out M (by have := hms.out; omega) z)); go_loud (obtain ⟨d1, q1⟩ := hSid.out.br.2 0 (by simp)); go_loud (obtain ⟨d2, q2⟩ := hSid.out.bz.2 0 (by simp)); go_loud (clear hc10 ho10 hz))
    all_goals
      go_wp2_with fail
      refine bodyPost_ret (v := .agg #[.slice (some ⟨gm, 0, none⟩) N capm]) (by simp [results, Tryz.results92, go_sem, d2]) rfl (bs_end hSid.out ⟨by rw [List.length_set]; have := hms.out; omega, by rw [List.length_set]; have := hms.out; omega, len_set (fun j hj => Nat.le_trans (hf5 j hj) (by omega)) _ _ (Nat.le_trans (hf5 _ _) (by omega)) (Nat.le_refl _)⟩ _)
  · -- a field more
    have hlk := hf5 M hMl
    have hD4 := Lib.hid hS4.out.drew
    have hgmR : gm ≠ R := fun e => hS4.out.ap.1 (by rw [e]; rfl)
    have hT4 := bt_S hS4.out hms.out M hMl
    have hM0 : (0 : Int) ≤ (M : Int) := by omega
    go_wp2_with fail
    refine wp_region_S (fun w' => w'.cell? ⟨R, 0, none⟩ = some (.slice (some ⟨gm, 0, none⟩) N capm) ∧ w'.cell? ⟨gm, M * 2 + 1, none⟩ = some ms[M].2.1) 21 (by kernel_rfl) hT4 ?_
    intro hT
    clear hT4
    refine wpAnyS_take (i := 0) (v := .pointer (some ⟨R, 0, none⟩)) [1, 19, 20, 21] rfl (by kernel_rfl) (by kernel_rfl) (by kernel_rfl) (by kernel_rfl) (fun _ _ _ h => h) (Or.inl ⟨by kernel_rfl, ?_⟩) hT ?_
    · (intro wv hSw; (try dsimp only at hSw); go_split_ands; go_simp)
    try simp only [List.getElem_toArray, List.getElem_cons_succ, List.getElem_cons_zero, Act.put, List.setIfInBounds_toArray, List.set_cons_zero, List.set_cons_succ]
    refine wpAnyS_take (i := 1) (v := .slice (some ⟨gm, 0, none⟩) N capm) [19, 20, 21] rfl (by kernel_rfl) (by kernel_rfl) (by kernel_rfl) (by kernel_rfl) (fun _ _ _ h => h) (Or.inl ⟨by kernel_rfl, ?_⟩) hT ?_
    · (intro wv hSw; (try dsimp only at hSw); go_split_ands; go_simp)
    try simp only [List.getElem_toArray, List.getElem_cons_succ, List.getElem_cons_zero, Act.put, List.setIfInBounds_toArray, List.set_cons_zero, List.set_cons_succ]
    refine wpAnyS_take (i := 2) (v := .int .i64 M) [19, 20, 21] rfl (by kernel_rfl) (by kernel_rfl) (by kernel_rfl) (by kernel_rfl) (fun _ _ _ h => h) (Or.inl ⟨by kernel_rfl, ?_⟩) hT ?_
    · (intro wv hSw; (try dsimp only at hSw); go_split_ands; go_simp)
    try simp only [List.getElem_toArray, List.getElem_cons_succ, List.getElem_cons_zero, Act.put, List.setIfInBounds_toArray, List.set_cons_zero, List.set_cons_succ]
    refine wpAnyS_take (i := 3) (v := .pointer (some ⟨R, 0, none⟩)) [4, 6, 7, 8, 18, 21] rfl (by kernel_rfl) (by kernel_rfl) (by kernel_rfl) (by kernel_rfl) (fun _ _ _ h => h) (Or.inl ⟨by kernel_rfl, ?_⟩) hT ?_
    · (intro wv hSw; (try dsimp only at hSw); go_split_ands; go_simp)
    try simp only [List.getElem_toArray, List.getElem_cons_succ, List.getElem_cons_zero, Act.put, List.setIfInBounds_toArray, List.set_cons_zero, List.set_cons_succ]
    refine wpAnyS_take (i := 4) (v := .slice (some ⟨gm, 0, none⟩) N capm) [6, 7, 8, 18, 21] rfl (by kernel_rfl) (by kernel_rfl) (by kernel_rfl) (by kernel_rfl) (fun _ _ _ h => h) (Or.inl ⟨by kernel_rfl, ?_⟩) hT ?_
    · (intro wv hSw; (try dsimp only at hSw); go_split_ands; go_simp)
    try simp only [List.getElem_toArray, List.getElem_cons_succ, List.getElem_cons_zero, Act.put, List.setIfInBounds_toArray, List.set_cons_zero, List.set_cons_succ]
    refine wpAnyS_take (i := 5) (v := .int .i64 M) [6, 7, 8, 18, 21] rfl (by kernel_rfl) (by kernel_rfl) (by kernel_rfl) (by kernel_rfl) (fun _ _ _ h => h) (Or.inl ⟨by kernel_rfl, ?_⟩) hT ?_
    · (intro wv hSw; (try dsimp only at hSw); go_split_ands; go_simp)
    try simp only [List.getElem_toArray, List.getElem_cons_succ, List.getElem_cons_zero, Act.put, List.setIfInBounds_toArray, List.set_cons_zero, List.set_cons_succ]
    refine wpAnyS_take (i := 6) (v := .pointer (some ⟨gm, M * 2, none⟩)) [7, 8, 18, 21] rfl (by kernel_rfl) (by kernel_rfl) (by kernel_rfl) (by kernel_rfl) (fun _ _ _ h => h) (Or.inl ⟨by kernel_rfl, ?_⟩) hT ?_
    · (intro wv hSw; (try dsimp only at hSw); go_split_ands; go_simp)
    try simp only [List.getElem_toArray, List.getElem_cons_succ, List.getElem_cons_zero, Act.put, List.setIfInBounds_toArray, List.set_cons_zero, List.set_cons_succ]
    refine wpAnyS_take (i := 7) (v := .pointer (some ⟨gm, M * 2 + 1, none⟩)) [8, 18, 21] rfl (by kernel_rfl) (by kernel_rfl) (by kernel_rfl) (by kernel_rfl) (fun _ _ _ h => h) (Or.inl ⟨by kernel_rfl, ?_⟩) hT ?_
    · (intro wv hSw; (try dsimp only at hSw); go_split_ands; go_simp)
    try simp only [List.getElem_toArray, List.getElem_cons_succ, List.getElem_cons_zero, Act.put, List.setIfInBounds_toArray, List.set_cons_zero, List.set_cons_succ]
    refine wpAnyS_take (i := 8) (v := ms[M].2.1) [18, 21] rfl (by kernel_rfl) (by kernel_rfl) (by kernel_rfl) (by kernel_rfl) (fun _ _ _ h => h) (Or.inl ⟨by kernel_rfl, ?_⟩) hT ?_
    · (intro wv hSw; (try dsimp only at hSw); go_split_ands; go_simp)
    try simp only [List.getElem_toArray, List.getElem_cons_succ, List.getElem_cons_zero, Act.put, List.setIfInBounds_toArray, List.set_cons_zero, List.set_cons_succ]
    refine wpAnyS_take (i := 9) (v := .pointer (some ⟨g, 0, none⟩)) [10, 12, 14, 15, 16, 17, 18, 21] rfl (by kernel_rfl) (by kernel_rfl) (by kernel_rfl) (by kernel_rfl) (fun _ _ _ h => h) (Or.inl ⟨by kernel_rfl, ?_⟩) hT ?_
    · (intro wv hSw; (try dsimp only at hSw); go_split_ands; go_simp)
    try simp only [List.getElem_toArray, List.getElem_cons_succ, List.getElem_cons_zero, Act.put, List.setIfInBounds_toArray, List.set_cons_zero, List.set_cons_succ]
    refine wpAnyS_take (i := 11) (v := .pointer (some ⟨g, 0, none⟩)) [12, 14, 15, 16, 17, 18, 21] rfl (by kernel_rfl) (by kernel_rfl) (by kernel_rfl) (by kernel_rfl) (fun _ _ _ h => h) (Or.inl ⟨by kernel_rfl, ?_⟩) hT ?_
    · (intro wv hSw; (try dsimp only at hSw); go_split_ands; go_simp)
    try simp only [List.getElem_toArray, List.getElem_cons_succ, List.getElem_cons_zero, Act.put, List.setIfInBounds_toArray, List.set_cons_zero, List.set_cons_succ]
    refine wpAnyS_take (i := 13) (v := .pointer (some ⟨g, 0, none⟩)) [14, 15, 16, 17, 18, 21] rfl (by kernel_rfl) (by kernel_rfl) (by kernel_rfl) (by kernel_rfl) (fun _ _ _ h => h) (Or.inl ⟨by kernel_rfl, ?_⟩) hT ?_
    · (intro wv hSw; (try dsimp only at hSw); go_split_ands; go_simp)
    try simp only [List.getElem_toArray, List.getElem_cons_succ, List.getElem_cons_zero, Act.put, List.setIfInBounds_toArray, List.set_cons_zero, List.set_cons_succ]
    refine wpAnyS_one (i := 10) (by kernel_rfl) rfl (fun K hK => ?_)
    rw [if_pos (by kernel_rfl)]
    go_simp
    refine (l4Number_any B g a len cap _ hD4.out.cur (by show B ≤ w4.heap.size; omega) (by show g < w4.heap.size; omega)).mono ?_
    rintro e w5 ⟨zn, hzn, rfl, hc5, ho5⟩
    have hS5 := Lib.hid (hD4.out.only (Off.only ho5) hc5)
    have hR5 := hS5.out.br.1
    clear hc5 ho5 hzn
    refine hK.out _ _ (bt_S hS5.out hms.out M hMl) (fun hT1 => ?_)
    clear hK K hT
    have hT := hT1
    clear hT1
    try simp only [Act.put, List.setIfInBounds_toArray, List.set_cons_zero, List.set_cons_succ]
    refine wpAnyS_one (i := 12) (by kernel_rfl) rfl (fun K hK => ?_)
    rw [if_pos (by kernel_rfl)]
    go_simp
    refine (l1Below_any B g a len cap _ _ hS5.out.cur (by omega)).mono ?_
    rintro e w6 ⟨z2, z20, z21, rfl, hc6, ho6⟩
    have hS6 := Lib.hid (hS5.out.only ho6 hc6)
    have hR6 := hS6.out.br.1
    clear hc6 ho6 z20 z21
    refine hK.out _ _ (bt_S hS6.out hms.out M hMl) (fun hT1 => ?_)
    clear hK K hT
    have hT := hT1
    clear hT1
    try simp only [Act.put, List.setIfInBounds_toArray, List.set_cons_zero, List.set_cons_succ]
    refine wpAnyS_one (i := 14) (by kernel_rfl) rfl (fun K hK => ?_)
    rw [if_pos (by kernel_rfl)]
    go_simp
    refine (l1Below_any B g a len cap _ _ hS6.out.cur (by omega)).mono ?_
    rintro e w7 ⟨z3, z30, z31, rfl, hc7, ho7⟩
    have hz34 : z3 < 4 := z31 (by omega)
    have hw1 : IntKind.i64.wrap (z3 - 1) = z3 - 1 := IntWalk.i64_in _ (by omega)
    have hS7 := Lib.hid (hS6.out.only ho7 hc7)
    have hR7 := hS7.out.br.1
    clear hc7 ho7 z31
    refine hK.out _ _ (bt_S hS7.out hms.out M hMl) (fun hT1 => ?_)
    clear hK K hT
    have hT := hT1
    clear hT1
    try simp only [Act.put, List.setIfInBounds_toArray, List.set_cons_zero, List.set_cons_succ]
    refine wpAnyS_take (i := 15) (v := .int .i64 (z3 - 1)) [16, 17, 18, 21] rfl (by kernel_rfl) (by kernel_rfl) (by kernel_rfl) (by kernel_rfl) (fun _ _ _ h => h) (Or.inl ⟨by kernel_rfl, ?_⟩) hT ?_
    · (intro wv hSw; (try dsimp only at hSw); go_split_ands; go_simp)
    try simp only [List.getElem_toArray, List.getElem_cons_succ, List.getElem_cons_zero, Act.put, List.setIfInBounds_toArray, List.set_cons_zero, List.set_cons_succ]
    refine wpAnyS_take (i := 16) (v := .agg #[.int .i64 zn, .int .i64 z2, .bool false, .bool false, .int .i64 (z3 - 1)]) [17, 18, 21] rfl (by kernel_rfl) (by kernel_rfl) (by kernel_rfl) (by kernel_rfl) (fun _ _ _ h => h) (Or.inl ⟨by kernel_rfl, ?_⟩) hT ?_
    · (intro wv hSw; (try dsimp only at hSw); go_split_ands; go_simp)
    try simp only [List.getElem_toArray, List.getElem_cons_succ, List.getElem_cons_zero, Act.put, List.setIfInBounds_toArray, List.set_cons_zero, List.set_cons_succ]
    have hfrow : w7.ownsRow (w.heap.size + 3) 117 5 ms[M].2.1 ms[M].2.2.length (ms[M].2.2.flatMap fieldC) := hS7.out.own.fields M hMl
    have hnew : (w7.alloc (.cells #[.int .i64 zn, .int .i64 z2, .bool false, .bool false, .int .i64 (z3 - 1)] 117)).heap[w7.heap.size]? = some (.cells #[.int .i64 zn, .int .i64 z2, .bool false, .bool false, .int .i64 (z3 - 1)] 117 (0, 0)) := heap_alloc_new _ _
    refine wpAnyS_one (i := 17) (by kernel_rfl) rfl (fun K hK => ?_)
    rw [if_pos (by kernel_rfl)]
    go_simp
    refine hK.out _ _ (bt_S (Bt.alloc hS7.out _) hms.out M hMl) (fun hT1 => ?_)
    clear hK K hT
    have hT := hT1
    clear hT1
    try simp only [Act.put, List.setIfInBounds_toArray, List.set_cons_zero, List.set_cons_succ]
    refine wpAnyS_one (i := 18) (by kernel_rfl) rfl (fun K hK => ?_)
    rw [if_pos (by kernel_rfl)]
    skip
    refine wp_append_lies _ _ _ 111 (by rfl) (w.heap.size + 3) 117 j0 _ 5 32 Tryz.underlying111 hj hj0 hj1 hj2 (by rfl) (by omega) ms[M].2.1 _ _ (by rfl) (World.ownsRow.alloc hfrow _) ⟨w7.heap.size, 0, none⟩ 1 1 [.int .i64 zn, .int .i64 z2, .bool false, .bool false, .int .i64 (z3 - 1)] (by rfl) (by rfl) (fun j u hj => World.news_of_block hnew j u hj) (by intro u hu; simp at hu; rcases hu with rfl | rfl | rfl | rfl | rfl <;> rfl) (by omega) (by unfold maxLen; omega) (by omega) (by simp; omega) (w7.heap.size + 1) (by simp) ?_
    intro g' cap' w8 hown2 hg2 hor2 hlt2
    have e012 := bt_cellsW (Bt.alloc hS7.out _) hms.out M hMl hg2
    obtain ⟨e0, e1, e2⟩ := e012
    refine hK.out _ _ ⟨e0, e1⟩ (fun hT1 => ?_)
    clear hK K hT
    have hT := hT1
    clear hT1
    try simp only [Act.put, List.setIfInBounds_toArray, List.set_cons_zero, List.set_cons_succ]
    refine wpAnyS_take (i := 19) (v := .pointer (some ⟨gm, M * 2, none⟩)) [20, 21] rfl (by kernel_rfl) (by kernel_rfl) (by kernel_rfl) (by kernel_rfl) (fun _ _ _ h => h) (Or.inl ⟨by kernel_rfl, ?_⟩) hT ?_
    · (intro wv hSw; (try dsimp only at hSw); go_split_ands; go_simp)
    try simp only [List.getElem_toArray, List.getElem_cons_succ, List.getElem_cons_zero, Act.put, List.setIfInBounds_toArray, List.set_cons_zero, List.set_cons_succ]
    refine wpAnyS_take (i := 20) (v := .pointer (some ⟨gm, M * 2 + 1, none⟩)) [21] rfl (by kernel_rfl) (by kernel_rfl) (by kernel_rfl) (by kernel_rfl) (fun _ _ _ h => h) (Or.inl ⟨by kernel_rfl, ?_⟩) hT ?_
    · (intro wv hSw; (try dsimp only at hSw); go_split_ands; go_simp)
    try simp only [List.getElem_toArray, List.getElem_cons_succ, List.getElem_cons_zero, Act.put, List.setIfInBounds_toArray, List.set_cons_zero, List.set_cons_succ]
    refine wpAnyS_last (by kernel_rfl) rfl (fun K hK => ?_)
    rw [if_pos (by kernel_rfl)]
    go_simp
    refine hK.out _ _ ?_
    clear hK K
    refine wpAnyS_done (by kernel_rfl) ?_ _
    have hE := Lib.hid (bt_fieldW (Bt.alloc hS7.out _) hms.out M hMl hg2 (zn, z2, false, false, z3 - 1) g' cap' hown2 (hor2.imp id fun e => e.trans (by simp)))
    have hSz : Hid (SchSz (ms.set M (ms[M].1, Value.slice (some ⟨g', 0, none⟩) (ms[M].2.2.length + 1) cap', ms[M].2.2 ++ [(zn, z2, false, false, z3 - 1)]))) := Lib.hid ⟨by rw [List.length_set]; have := hms.out; omega, by rw [List.length_set]; have := hms.out; omega, len_set hf5 M _ (by simp; omega) (by omega)⟩
    obtain ⟨d1, q3⟩ := hE.out.br.2 0 (by simp)
    obtain ⟨d2, q4⟩ := hE.out.bz.2 0 (by simp)
    clear hT e0 e1 e2 hfrow hnew hown2 hg2
    go_wp2_with fail
    refine bodyPost_ret (v := .agg #[.slice (some ⟨gm, 0, none⟩) N capm]) (by simp [results, Tryz.results92, go_sem, d2]) rfl (bs_end hE.out hSz.out _)
  · -- another reference
    have hfrow : w4.ownsRow (w.heap.size + 3) 117 5 ms[M].2.1 ms[M].2.2.length (ms[M].2.2.flatMap fieldC) := hS4.out.own.fields M hMl
    obtain ⟨n0', n1', n2', n3'⟩ := hS4.out.own.cellsAt hms.out M hMl
    obtain ⟨q0, q1⟩ := hS4.out.br.2 0 (by simp)
    obtain ⟨z0, z1⟩ := hS4.out.bz.2 0 (by simp)
    by_cases hl0 : 0 < ms[M].2.2.length
    · obtain ⟨gf, capf, hu, hgf1, hgf2⟩ := World.ownsRow.form hfrow hl0
      have Hu := Lib.hid hu
      rw [hu] at n1'
      have hl0i : (0 : Int) < (ms[M].2.2.length : Int) := by omega
      clear hfrow
      go_wp2_with fail
      go_region_with (go_at_call 56; go_loud (refine (l1Below_any B g a len cap _ _ hS4.out.drew.cur (by omega)).mono ?_); go_loud (rintro e w10 ⟨z, hz0', hz1', rfl, hc10, ho10⟩); go_loud (have hz5 : z < 5 := hz1' (by omega)); go_loud (have hw1 : IntKind.i64.wrap (z - 1) = z - 1 := IntWalk.i64_in _ (by omega)); go_loud (have hS10 := Lib.hid (hS4.out.drew.only ho10 hc10)); go_loud (have hfr10 := OwnRaw.fields hS10.out.own M hMl); go_loud (unfold FOwn at hfr10); go_loud (rw [Hu.out] at hfr10); go_loud (obtain ⟨m0, m1, m2, m3⟩ := hS10.out.own.cellsAt hms.out M hMl); go_loud (rw [Hu.out] at m1); go_loud (obtain ⟨d0, q2⟩ := hS10.out.br.2 0 (by simp)); go_loud (have hk5 := fcells hfr10 rfl 0 hl0); go_loud (simp only [Nat.zero_mul, Nat.zero_add] at hk5); go_loud (obtain ⟨k0, k1, k2, k3, k4, k5, k6, k7, k8, k9⟩ := hk5); go_loud (have hSid := Lib.hid (bt_put1 hS10.out M hMl Hu.out hl0 4 (by omega) (.int .i64 (z - 1)) (ms[M].2.2[0].1, ms[M].2.2[0].2.1, ms[M].2.2[0].2.2.1, ms[M].2.2[0].2.2.2.1, z - 1) rfl)); go_loud (obtain ⟨d1, q3⟩ := hSid.out.br.2 0 (by simp)); go_loud (obtain ⟨d2, q4⟩ := hSid.out.bz.2 0 (by simp)); go_loud (clear hc10 ho10 hz1' hfr10))
      all_goals
        go_wp2_with fail
        refine bodyPost_ret (v := .agg #[.slice (some ⟨gm, 0, none⟩) N capm]) (by simp [results, Tryz.results92, go_sem, d2]) rfl (bs_end hSid.out ⟨by rw [List.length_set]; have := hms.out; omega, by rw [List.length_set]; have := hms.out; omega, len_set (fun j hj => Nat.le_trans (hf5 j hj) (by omega)) _ _ (by rw [List.length_set]; exact Nat.le_trans (hf5 _ _) (by omega)) (Nat.le_refl _)⟩ _)
    · obtain ⟨av, cv, hav⟩ := FieldsAt.len (hS4.out.own.fieldsAt M hMl)
      rw [hav] at n1'
      have hl00 : ms[M].2.2.length = 0 := by omega
      rw [hl00] at n1'
      clear hav hl00 hl0 hfrow
      go_wp2_with fail
      refine bodyPost_ret (v := .agg #[.slice (some ⟨gm, 0, none⟩) N capm]) (by simp [results, Tryz.results92, go_sem, z0]) rfl (bs_end hS4.out hSame _)
  · -- Packed
    have hfrow : w4.ownsRow (w.heap.size + 3) 117 5 ms[M].2.1 ms[M].2.2.length (ms[M].2.2.flatMap fieldC) := hS4.out.own.fields M hMl
    obtain ⟨n0', n1', n2', n3'⟩ := hS4.out.own.cellsAt hms.out M hMl
    obtain ⟨q0, q1⟩ := hS4.out.br.2 0 (by simp)
    obtain ⟨z0, z1⟩ := hS4.out.bz.2 0 (by simp)
    by_cases hl0 : 0 < ms[M].2.2.length
    · obtain ⟨gf, capf, hu, hgf1, hgf2⟩ := World.ownsRow.form hfrow hl0
      have Hu := Lib.hid hu
      rw [hu] at n1' hfrow
      have hl0i : (0 : Int) < (ms[M].2.2.length : Int) := by omega
      have hk5 := fcells hfrow rfl 0 hl0
      simp only [Nat.zero_mul, Nat.zero_add] at hk5
      obtain ⟨k0, k1, k2, k3, k4, k5, k6, k7, k8, k9⟩ := hk5
      have hSid := Lib.hid (bt_put1 hS4.out M hMl Hu.out hl0 3 (by omega) (.bool true) (ms[M].2.2[0].1, ms[M].2.2[0].2.1, ms[M].2.2[0].2.2.1, true, ms[M].2.2[0].2.2.2.2) rfl)
      obtain ⟨d1, q3⟩ := hSid.out.br.2 0 (by simp)
      obtain ⟨d2, q4⟩ := hSid.out.bz.2 0 (by simp)
      clear hfrow
      go_wp2_with fail
      refine bodyPost_ret (v := .agg #[.slice (some ⟨gm, 0, none⟩) N capm]) (by simp [results, Tryz.results92, go_sem, d2]) rfl (bs_end hSid.out ⟨by rw [List.length_set]; have := hms.out; omega, by rw [List.length_set]; have := hms.out; omega, len_set (fun j hj => Nat.le_trans (hf5 j hj) (by omega)) _ _ (by rw [List.length_set]; exact Nat.le_trans (hf5 _ _) (by omega)) (Nat.le_refl _)⟩ _)
    · obtain ⟨av, cv, hav⟩ := FieldsAt.len (hS4.out.own.fieldsAt M hMl)
      rw [hav] at n1'
      have hl00 : ms[M].2.2.length = 0 := by omega
      rw [hl00] at n1'
      clear hav hl00 hl0 hfrow
      go_wp2_with fail
      refine bodyPost_ret (v := .agg #[.slice (some ⟨gm, 0, none⟩) N capm]) (by simp [results, Tryz.results92, go_sem, z0]) rfl (bs_end hS4.out hSame _)
  · -- messages more
    go_wp2_with fail
    go_loopw [88] (fun _ wr => ∃ (u : Value) (ms' : List OM), 0 < ms'.length ∧ ms'.length ≤ 7 ∧ Hid (Bt w B g a len cap 113 117 u ms' R wr) ∧ Hid (∀ j (hj : j < ms'.length), ms'[j].2.2.length ≤ 5)) (fun _ wr => 7 - lenAt wr R)
    case atStart => exact ⟨_, ms, by have := hms.out; omega, by have := hms.out; omega, hS4, Lib.hid hf5⟩
    case round =>
      obtain ⟨u, ms', hl0, hl7, hS, hf⟩ := hrel
      clear hS4
      obtain ⟨g2, cap2, hu, _, _⟩ := World.ownsRow.form hS.out.own.row hl0
      subst hu
      obtain ⟨c0, f0⟩ := hS.out.br.2 0 (by simp)
      have hla := Lib.hid (lenAt_of hS.out.br)
      have hRl := hS.out.br.1
      go_wp2_with fail
      go_region_with (go_at_call 56; go_loud (refine (l1Below_any B g a len cap _ _ hS.out.drew.cur (by omega)).mono ?_); go_loud (rintro e w10 ⟨x, x0, x1, rfl, hc, ho⟩); go_loud (have hx : x < 2 := x1 (by omega)); go_loud (have hS10 := Lib.hid (hS.out.drew.only ho hc)); go_loud (obtain ⟨d0, q0⟩ := hS10.out.br.2 0 (by simp)); go_loud (have hw6 : IntKind.i64.wrap (6 + x) = 6 + x := IntWalk.i64_in _ (by omega)); go_loud (clear x1 hc ho))
      all_goals
        have hRl2 := hS10.out.br.1
        obtain ⟨d1, q1⟩ := hS10.out.bz.2 0 (by simp)
        by_cases hlt : (ms'.length : Int) < 6 + x
        · have hcap := hS10.out.own.row
          have hnew : (w10.alloc (.cells #[.int .i64 (91 + (ms'.length : Int)), .slice none 0 0] 113)).heap[w10.heap.size]? = some (.cells #[.int .i64 (91 + (ms'.length : Int)), .slice none 0 0] 113 (0, 0)) := heap_alloc_new _ _
          go_wp2_with (at_builtin; refine wpList_append_lies _ (by rfl) (.tmp 96) (.tmp 102) 24 (by rfl) (w.heap.size + 3) 113 i0 _ 2 32 Tryz.underlying24 hi hz0 hz1 hz2 (by rfl) (by omega) (.slice (some ⟨g2, 0, none⟩) ms'.length cap2) _ _ (by rfl) (World.ownsRow.alloc hcap _) ⟨w10.heap.size, 0, none⟩ 1 1 [.int .i64 (91 + (ms'.length : Int)), .slice none 0 0] (by rfl) (by rfl) (fun j u hj => World.news_of_block hnew j u hj) (by intro u hu; simp at hu; rcases hu with rfl | rfl <;> rfl) (by omega) (by unfold maxLen; omega) (by omega) (by simp; omega) (w10.heap.size + 1) (by simp) ?_; intro g' cap' w2 hown2 hg2 hor2 hlt2; have e01 := bt_cells hS10.out _ hg2; obtain ⟨e0, e1⟩ := e01)
          have hE := Lib.hid (bt_push hS10.out _ hg2 _ g' cap' hown2 hor2)
          have hla2 := Lib.hid (lenAt_of hE.out.br)
          go_roundw
          case rel => exact ⟨_, _, by simp, by simp <;> omega, hE, Lib.hid (len_push hf.out _ (by simp))⟩
          case measure => rw [hla.out, hla2.out]; omega
        · have hge : 6 + x ≤ (ms'.length : Int) := by omega
          go_wp2_with fail
          refine bodyPost_ret (v := .agg #[_]) (by simp [results, Tryz.results92, go_sem, d1]) rfl (bs_end hS10.out ⟨hl0, hl7, fun j hj => Nat.le_trans (hf.out j hj) (by omega)⟩ _)
end Go.Proofs.YtpkofbdfnbpfpaaGreat.Num

