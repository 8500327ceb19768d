/-
  The walk of the reference's Compile: the first violation, or the shapes in the order of their Ids, each in memory of the call's own.
-/
import Derived.Test.YthjnpipincpkgaaPut
import Derived.Test.YthjnpipincpkgaaSetMsg
import Derived.Test.YthjnpipincpkgaaCompOwn
import Derived.Deep.RegionHeld3
namespace Go.Proofs.Ythjnpipincpkgaa.Num
open Go.RowKit Go.Proofs
set_option linter.unusedVariables false
set_option linter.unusedSimpArgs false

theorem infoShp : (Try.prog.info? 32).map (fun i => (i.zero, i.size, i.bytes)) = some (some (.agg #[.int .i64 0, .slice none 0 0]), 2, 32) := by kernel_rfl
/-- What stands while the shapes are laid: the call's variables, and the shapes so far. -/
def CSt (wr : World) (B V O n cap : Nat) (a : Option Addr) (F2 F3 : Int) (TM TF : TypeId) (ms : List OM) : Prop :=
  (Box wr B [.slice a n cap] ∧ Box wr (B + 1) [.slice none 0 0] ∧ Box wr (B + 1 + 1) [.int .i64 0, .int .i64 0, .int .i64 0] ∧ Box wr V [.int .i64 0, .int .i64 F2, .int .i64 F3] ∧ Box wr O [.slice (some ⟨V + 1, 0, none⟩) n n]) ∧
  OwnRaw wr (V + 1) TM TF (.slice (some ⟨V + 1, 0, none⟩) n n) ms ∧ ms.length = n ∧ (B + 1 + 1 < V ∧ V + 1 < O ∧ O < wr.heap.size)
section
variable {wr wx : World} {B V O n cap : Nat} {a : Option Addr} {F2 F3 : Int} {TM TF : TypeId} {ms : List OM}
theorem CSt.below (h : CSt wr B V O n cap a F2 F3 TM TF ms) (hb : Below wr.heap.size wr wx) : CSt wx B V O n cap a F2 F3 TM TF ms := by
  obtain ⟨⟨h1, h2, h3, h4, h5⟩, h6, h7, h8, h9, h10⟩ := h
  exact ⟨⟨h1.below hb h1.1, h2.below hb h2.1, h3.below hb h3.1, h4.below hb h4.1, h5.below hb h5.1⟩, h6.below hb, h7, h8, h9, Nat.lt_of_lt_of_le h10 hb.size⟩
/-- The i-th shape is laid: its fields in a block newer than all of the others. -/
theorem CSt.put {N i : Nat} {u : Value} {id : Int} {l : List RF} (h : CSt wx B V O n cap a F2 F3 TM TF ms) (hi : i < n) (hu : FOwn wx (V + 1) TF (id, u, l)) (hN : ∀ b, u.ownBlock = some b → N ≤ b) (hold : ∀ j (hj : j < ms.length) b, ms[j].2.1.ownBlock = some b → b < N) (hV : V + 1 < N) :
    CSt ((wx.setCell ⟨V + 1, i * 2, none⟩ (.int .i64 id)).setCell ⟨V + 1, i * 2 + 1, none⟩ u) B V O n cap a F2 F3 TM TF (ms.set i (id, u, l)) := by
  obtain ⟨⟨h1, h2, h3, h4, h5⟩, h6, h7, h8, h9, h10⟩ := h
  refine ⟨⟨(h1.other (by simp; omega) _).other (by simp; omega) _, (h2.other (by simp; omega) _).other (by simp; omega) _, (h3.other (by simp; omega) _).other (by simp; omega) _, (h4.other (by simp) _).other (by simp) _, (h5.other (by simp; omega) _).other (by simp; omega) _⟩, ?_, by simpa using h7, h8, h9, by simpa [World.setCell] using h10⟩
  subst h7
  refine h6.setMsg i hi hu (fun e => by have := hN _ e; omega) fun j hj => ?_
  refine ⟨?_, ?_⟩
  · cases hb : ms[j].2.1.ownBlock with
    | none => exact .inl hb
    | some b => exact .inr fun e => by have h1 := hold j hj b hb; rw [hb] at e; have h2 := hN b e.symm; omega
  · cases hb : u.ownBlock with
    | none => exact .inl hb
    | some b => exact .inr fun e => by have h1 := hN b hb; rw [hb] at e; have h2 := hold j hj b e.symm; omega
end
theorem OwnRaw.drew' {w : World} {B : Nat} {TM TF : TypeId} {v : Value} {ms : List OM} (h : OwnRaw w B TM TF v ms) : OwnRaw w.drew B TM TF v ms := h.drew
theorem undrewB {w w' : World} (h : Below w.drew.heap.size w.drew w') : Below w.heap.size w w' := ⟨h.os, h.tape, h.output, h.size, h.block⟩
theorem plain_set (ms : List OM) (i : Nat) (m : OM) : plain (ms.set i m) = (plain ms).set i (m.1, m.2.2) := by unfold plain; rw [List.map_set]
set_option maxHeartbeats 8000000 in
set_option maxRecDepth 100000 in
theorem specCompile_own (v : Value) (r : List RM) (w : World) (h : RawAt w (· < w.heap.size) v r) (hr : Small r) :
    Calls Try.prog 70 #[v] w fun e w' => ∃ f u, CompiledO w w' 32 34 r f u ∧ e = .returned (.tuple #[.agg #[u], violV f]) ∧ Below w.heap.size w w' := by
  obtain ⟨i0, hi, hz0, hz1, hz2⟩ := info_parts infoShp
  obtain ⟨u, rfl, hu⟩ := h
  obtain ⟨a, cap, rfl⟩ := hu.len
  have H := Lib.hid hu
  have Hsm := Lib.hid hr
  have hr1 := hr.1
  have Hr2 := Lib.hid hr.2
  clear hu hr
  go_enter Try.func70, Try.ntmps70
  go_wp2_with fail
  have hb3 : Below w.heap.size w (((w.alloc (.cells #[.slice a r.length cap] 49)).alloc (.cells #[.slice none 0 0] 26)).alloc (.cells #[.int .i64 0, .int .i64 0, .int .i64 0] 100)) := (((Below.refl _ _).alloc (Nat.le_refl _) _).alloc (by simp) _).alloc (by simp; omega) _
  have hs3 : Box (((w.alloc (.cells #[.slice a r.length cap] 49)).alloc (.cells #[.slice none 0 0] 26)).alloc (.cells #[.int .i64 0, .int .i64 0, .int .i64 0] 100)) w.heap.size [.slice a r.length cap] := ((Box.fresh _ _ _).alloc _).alloc _
  have hx3 : Box (((w.alloc (.cells #[.slice a r.length cap] 49)).alloc (.cells #[.slice none 0 0] 26)).alloc (.cells #[.int .i64 0, .int .i64 0, .int .i64 0] 100)) (w.heap.size + 1) [.slice none 0 0] := by
    have h := (Box.fresh (w.alloc (.cells #[.slice a r.length cap] 49)) #[.slice none 0 0] 26).alloc (.cells #[.int .i64 0, .int .i64 0, .int .i64 0] 100)
    rwa [show (w.alloc (.cells #[.slice a r.length cap] 49)).heap.size = w.heap.size + 1 by simp] at h
  have ho3 : Box (((w.alloc (.cells #[.slice a r.length cap] 49)).alloc (.cells #[.slice none 0 0] 26)).alloc (.cells #[.int .i64 0, .int .i64 0, .int .i64 0] 100)) (w.heap.size + 1 + 1) [.int .i64 0, .int .i64 0, .int .i64 0] := by
    have h := Box.fresh ((w.alloc (.cells #[.slice a r.length cap] 49)).alloc (.cells #[.slice none 0 0] 26)) #[.int .i64 0, .int .i64 0, .int .i64 0] 100
    rwa [show ((w.alloc (.cells #[.slice a r.length cap] 49)).alloc (.cells #[.slice none 0 0] 26)).heap.size = w.heap.size + 1 + 1 by simp] at h
  have hz3 : w.heap.size + 1 + 1 < (((w.alloc (.cells #[.slice a r.length cap] 49)).alloc (.cells #[.slice none 0 0] 26)).alloc (.cells #[.int .i64 0, .int .i64 0, .int .i64 0] 100)).heap.size := by simp
  generalize (((w.alloc (.cells #[.slice a r.length cap] 49)).alloc (.cells #[.slice none 0 0] 26)).alloc (.cells #[.int .i64 0, .int .i64 0, .int .i64 0] 100)) = w3 at hb3 hs3 hx3 ho3 hz3 ⊢
  refine (specFirst_any _ r _ ((show RawAt w (· < w.heap.size) _ r from ⟨_, rfl, H.out⟩).keep (.of_below hb3 fun _ h => h) fun _ h => Nat.lt_of_lt_of_le h hb3.size) Hsm.out).mono ?_
  rintro e w4 ⟨⟨F1, F2, F3⟩, hf, rfl, hb4⟩
  have Hf := Lib.hid hf
  have HS4 := Lib.hid (hs3.below hb4 (by omega))
  have HX4 := Lib.hid (hx3.below hb4 (by omega))
  have HO4 := Lib.hid (ho3.below hb4 (by omega))
  have hl4 := hb3.trans (hb4.mono hb3.size)
  have hz4 := Nat.lt_of_lt_of_le hz3 hb4.size
  clear hf hb3 hs3 hx3 ho3 hb4 hz3
  unfold violV
  obtain ⟨c0, _⟩ := HS4.out.one
  obtain ⟨d0, k0⟩ := HX4.out.one
  obtain ⟨o0, o1, o2, l0, l1, l2⟩ := HO4.out.three
  have hs0 : w.heap.size < w4.heap.size := by omega
  have hs1 : w.heap.size + 1 < w4.heap.size := by omega
  by_cases hF : F1 = 0
  · subst hF
    have hz5 : w.heap.size ≤ w4.heap.size := by omega
    go_wp2_with (refine wpList_make_full _ rfl _ _ 24 rfl (w4.heap.size + 1) 32 i0 _ 2 Try.underlying24 hi hz0 hz1 .i64 .i64 _ _ r.length rfl rfl rfl rfl (by rw [hz2]; omega) (by unfold maxLen; omega) (by simp) ?_; intro w5 hown5 hg5)
    have hB5 : Below w.heap.size w w5 := (hl4.alloc (by omega) _).grown hg5 (by simp; omega) (fun k hk => by cases hk)
    have hz50 : w4.heap.size + 1 < w5.heap.size := by
      have h1 := (hown5.lt _ rfl).2
      simpa using h1
    have hgv : (w4.alloc (.cells #[.int .i64 0, .int .i64 F2, .int .i64 F3] 100)).heap.size = w4.heap.size + 1 := by simp
    have hS5 := Box.grown hg5 (HS4.out.alloc (.cells #[.int .i64 0, .int .i64 F2, .int .i64 F3] 100)) (fun k hk => by cases hk)
    have hX5 := Box.grown hg5 (HX4.out.alloc (.cells #[.int .i64 0, .int .i64 F2, .int .i64 F3] 100)) (fun k hk => by cases hk)
    have hO5 := Box.grown hg5 (HO4.out.alloc (.cells #[.int .i64 0, .int .i64 F2, .int .i64 F3] 100)) (fun k hk => by cases hk)
    have hV5 := Box.grown hg5 (Box.fresh w4 #[.int .i64 0, .int .i64 F2, .int .i64 F3] 100) (fun k hk => by cases hk)
    rw [hgv] at hown5
    have HC : Hid (CSt (w5.alloc (.cells #[.slice (some ⟨w4.heap.size + 1, 0, none⟩) r.length r.length] 26)) w.heap.size w4.heap.size w5.heap.size r.length cap a F2 F3 32 34 (List.replicate r.length (0, .slice none 0 0, []))) :=
      Lib.hid ⟨⟨hS5.alloc _, hX5.alloc _, hO5.alloc _, hV5.alloc _, Box.fresh _ _ _⟩, (OwnRaw.made hown5).alloc _, by simp, by omega, by omega, by simp⟩
    have hl6 : Below w.heap.size w (w5.alloc (.cells #[.slice (some ⟨w4.heap.size + 1, 0, none⟩) r.length r.length] 26)) := hB5.alloc hB5.size _
    generalize w5.alloc (.cells #[.slice (some ⟨w4.heap.size + 1, 0, none⟩) r.length r.length] 26) = w6 at HC hl6 ⊢
    generalize w5.heap.size = O at HC ⊢
    generalize w4.heap.size = V at HC ⊢
    clear hB5 hz50 hS5 hX5 hO5 hV5 hown5 hg5 HS4 HX4 HO4 hl4 hz4 c0 d0 k0 o0 o1 o2 l0 l1 l2 hs0 hs1 hz5 hgv
    go_loopw [6] (fun i wr => ∃ k : Nat, k ≤ r.length ∧ i = .int .i64 k ∧ Hid (∃ ms, plain ms = (r.take k).foldl (compStep r) (List.replicate r.length (0, [])) ∧ CSt wr w.heap.size V O r.length cap a F2 F3 32 34 ms) ∧ Below w.heap.size w wr) (fun i _ => r.length - (intOf i).toNat)
    case atStart => exact ⟨0, by omega, rfl, Lib.hid ⟨_, by simp [plain], HC.out⟩, hl6⟩
    case round =>
      clear HC hl6
      obtain ⟨k, hk, rfl, hms, hl⟩ := hrel
      obtain ⟨ms, hp, hst⟩ := hms.out
      have HC := Lib.hid hst
      have Hp := Lib.hid hp
      obtain ⟨wo, hwo⟩ : ∃ wo : World, wo = wr := ⟨_, rfl⟩
      subst hwo
      obtain ⟨c0, _⟩ := hst.1.1.one
      have hzB := hst.1.1.1
      clear hms hp hst
      by_cases hlt : k < r.length
      · have hlti : (k : Int) < (r.length : Int) := by omega
        obtain ⟨b, o, cp, hv, hbC, hcs⟩ := H.out.cells (by omega)
        obtain ⟨rfl, rfl⟩ : a = some ⟨b, o, none⟩ ∧ cap = cp := by injection hv with e1 e2 e3; exact ⟨e1, e3⟩
        obtain ⟨x, d0, d1, hx⟩ := hcs k hlt
        obtain ⟨xa, xc, rfl⟩ := hx.len
        have Hx := Lib.hid hx
        have hfl := Hr2.out _ (List.getElem_mem hlt)
        have Hnext : Hid (∀ ms' : List OM, plain ms' = (plain ms).set (rankR r r[k].1) (r[k].1, compFs r r[k].2) → plain ms' = (r.take (k + 1)).foldl (compStep r) (List.replicate r.length (0, []))) := Lib.hid fun ms' h => by
          rw [h, fold_take _ _ _ _ hlt, ← Hp.out]; rfl
        have hrk := rank_lt hlt
        clear hcs hv hx
        rw [← hl.cell (p := ⟨b, _, none⟩) hbC] at d0 d1
        generalize r[k] = m at d0 d1 Hx hfl Hnext hrk
        obtain ⟨id, fs⟩ := m
        simp only at d0 d1 Hx hfl Hnext hrk
        have hbw : b < wo.heap.size := Nat.lt_of_lt_of_le hbC hl.size
        have hz0 := hl.size
        have hX1 := Box.fresh wo #[.int .i64 id, .slice none 0 0] 32
        have hbX : Below wo.heap.size wo (wo.alloc (.cells #[.int .i64 id, .slice none 0 0] 32)) := (Below.refl _ _).alloc (Nat.le_refl _) _
        have hzX : wo.heap.size + 1 ≤ (wo.alloc (.cells #[.int .i64 id, .slice none 0 0] 32)).heap.size := by simp
        have hF0 : FOwn (wo.alloc (.cells #[.int .i64 id, .slice none 0 0] 32)) (wo.heap.size + 1) 34 (id, .slice none 0 0, []) := World.ownsRow_nil _ _ _ 5
        go_wp2_with fail
        go_loopw [8] (fun qi wz => ∃ (q : Nat) (vf : Value), q ≤ fs.length ∧ qi = .int .i64 q ∧ Hid (vf = .slice none 0 0 ∨ ∃ b o c, vf = .slice (some ⟨b, o, none⟩) q c) ∧ Hid (FOwn wz (wo.heap.size + 1) 34 (id, vf, (fs.take q).foldl (fun acc f => putR acc (compF r f)) [])) ∧ Hid (Box wz wo.heap.size [.int .i64 id, vf]) ∧ Below wo.heap.size wo wz ∧ wo.heap.size + 1 ≤ wz.heap.size) (fun qi _ => fs.length - (intOf qi).toNat)
        case atStart => exact ⟨0, _, by omega, rfl, Lib.hid (.inl rfl), Lib.hid (by simpa using hF0), Lib.hid hX1, hbX, hzX⟩
        case round =>
          clear hX1 hbX hzX hF0
          obtain ⟨q, vf, hq, rfl, hvf, hfo, hbx, hbz, hzz⟩ := hrel
          have s0 := (hbz.cell (p := ⟨w.heap.size, 0, none⟩) hzB).trans c0
          have s1 := (hbz.cell (p := ⟨b, _, none⟩) hbw).trans d1
          obtain ⟨m0, m1, g0, g1⟩ := hbx.out.two
          have hzB2 : w.heap.size < wr.heap.size := by omega
          have hzX : wo.heap.size < wr.heap.size := by omega
          have hbz2 : b < wr.heap.size := by omega
          have hlenq : ((fs.take q).foldl (fun acc f => putR acc (compF r f)) []).length = q := by rw [foldPut_len, List.length_take]; simp; omega
          have Hlenq := Lib.hid hlenq
          clear hlenq
          by_cases hqn : q < fs.length
          · have hqi : (q : Int) < (fs.length : Int) := by omega
            obtain ⟨fb, fo, fc, fv, fbC, fcs⟩ := Hx.out.cells (by omega)
            obtain ⟨rfl, rfl⟩ : xa = some ⟨fb, fo, none⟩ ∧ xc = fc := by injection fv with e1 e2 e3; exact ⟨e1, e3⟩
            obtain ⟨x0', x1', x2', x3', x4'⟩ := fcs q hqn
            clear fcs fv
            have hfw : fb < wo.heap.size := Nat.lt_of_lt_of_le fbC hl.size
            rw [← hl.cell (p := ⟨fb, _, none⟩) fbC, ← hbz.cell (p := ⟨fb, _, none⟩) hfw] at x0' x1' x2' x3' x4'
            have hfz : fb < wr.heap.size := Nat.lt_of_lt_of_le hfw hbz.size
            have HF : Hid (∀ z : RF, compF r fs[q] = z → putR ((fs.take q).foldl (fun acc f => putR acc (compF r f)) []) z = (fs.take (q + 1)).foldl (fun acc f => putR acc (compF r f)) []) := Lib.hid fun z hz => by
              rw [fold_take _ _ _ _ hqn, hz]
            generalize fs[q] = f at x0' x1' x2' x3' x4' HF
            obtain ⟨A1, A2, A3, A4, A5⟩ := f
            simp only at x0' x1' x2' x3' x4' HF
            generalize hL : (fs.take q).foldl (fun acc f => putR acc (compF r f)) [] = L at hfo HF Hlenq
            have HL := Lib.hid hL
            clear hL
            obtain ⟨va, vc, hva⟩ : ∃ a c, vf = .slice a L.length c := ownsRow_form hfo.out
            subst hva
            have hVF : Hid (Value.slice va L.length vc = .slice none 0 0 ∨ ∃ b o c, Value.slice va L.length vc = .slice (some ⟨b, o, none⟩) L.length c) := Lib.hid (by
              rcases hvf.out with h | ⟨b', o', c', h⟩
              · exact .inl h
              · exact .inr ⟨b', o', c', by rw [h, Hlenq.out]⟩)
            clear hvf
            have hLl : L.length ≤ 1048576 := by have := Hlenq.out; omega
            have hbA : Below wr.heap.size wr ((wr.alloc (.cells #[.int .i64 A1, .int .i64 A2, .bool A3, .bool A4, .int .i64 A5] 78)).alloc (.cells #[.int .i64 A1, .int .i64 A2, .bool A3, .bool A4, .int .i64 (-1)] 34)) := ((Below.refl _ _).alloc (Nat.le_refl _) _).alloc (by simp) _
            have hxG : Box ((wr.alloc (.cells #[.int .i64 A1, .int .i64 A2, .bool A3, .bool A4, .int .i64 A5] 78)).alloc (.cells #[.int .i64 A1, .int .i64 A2, .bool A3, .bool A4, .int .i64 (-1)] 34)) (wr.heap.size + 1) [.int .i64 A1, .int .i64 A2, .bool A3, .bool A4, .int .i64 (-1)] := by
              have h := Box.fresh (wr.alloc (.cells #[.int .i64 A1, .int .i64 A2, .bool A3, .bool A4, .int .i64 A5] 78)) #[.int .i64 A1, .int .i64 A2, .bool A3, .bool A4, .int .i64 (-1)] 34
              rwa [show (wr.alloc (.cells #[.int .i64 A1, .int .i64 A2, .bool A3, .bool A4, .int .i64 A5] 78)).heap.size = wr.heap.size + 1 by simp] at h
            have Hend : Hid (∀ (wx w9 : World) (z : Int) (g' cap' : Nat), Below wr.heap.size wr wx → compF r (A1, A2, A3, A4, A5) = (A1, A2, A3, A4, z) → w9.ownsRow wx.heap.size 34 5 (.slice (some ⟨g', 0, none⟩) (L.length + 1) cap') (L.length + 1) ((putR L (A1, A2, A3, A4, z)).flatMap fieldC) → Below wx.heap.size wx w9 →
                FOwn (w9.setCell ⟨wo.heap.size, 1, none⟩ (.slice (some ⟨g', 0, none⟩) (L.length + 1) cap')) (wo.heap.size + 1) 34 (id, .slice (some ⟨g', 0, none⟩) (L.length + 1) cap', (fs.take (q + 1)).foldl (fun acc f => putR acc (compF r f)) []) ∧
                Box (w9.setCell ⟨wo.heap.size, 1, none⟩ (.slice (some ⟨g', 0, none⟩) (L.length + 1) cap')) wo.heap.size [.int .i64 id, .slice (some ⟨g', 0, none⟩) (L.length + 1) cap'] ∧
                Below wo.heap.size wo (w9.setCell ⟨wo.heap.size, 1, none⟩ (.slice (some ⟨g', 0, none⟩) (L.length + 1) cap')) ∧ wo.heap.size + 1 ≤ (w9.setCell ⟨wo.heap.size, 1, none⟩ (.slice (some ⟨g', 0, none⟩) (L.length + 1) cap')).heap.size) := Lib.hid fun wx w9 z g' cap' hbx' hz ho hb9 => by
              have h1 := hbx'.size
              have h2 := hb9.size
              have hg' := (ho.lt g' rfl).1
              have hB9 : Below wr.heap.size wr w9 := hbx'.trans (hb9.mono h1)
              refine ⟨?_, ?_, ?_, ?_⟩
              · unfold FOwn
                simp only
                rw [← HF.out _ hz, putR_len]
                exact ownsRow_setCell_other (a := ⟨wo.heap.size, 1, none⟩) (ownsRow_base ho (by omega)) (by simp [Value.ownBlock]; omega) _
              · have := (hbx.out.below hB9 (by omega)).set 1 (.slice (some ⟨g', 0, none⟩) (L.length + 1) cap')
                exact this
              · exact (hbz.trans (hB9.mono (by omega))).setCell (by simp) _
              · simp [World.setCell]; omega
            have Hfat : Hid (∀ wx : World, Below wr.heap.size wr wx → FieldsAt wx (· < wx.heap.size) (.slice va L.length vc) L) := Lib.hid fun wx hb => by
              have h1 := hb.size
              exact (show FieldsAt wr (· < wr.heap.size) _ L from rowAt_of_owns (f := fieldC) (fun _ => rfl) hfo.out (fun k hk => (World.ownsRow.lt hfo.out k hk).2) fun _ _ => rfl).keep (below_sees hb) fun b' hb' => Nat.lt_of_lt_of_le hb' h1
            have Hraw : Hid (∀ wx : World, Below wr.heap.size wr wx → RawAt wx (· < wx.heap.size) (.agg #[.slice (some ⟨b, o, none⟩) r.length cap]) r) := Lib.hid fun wx hb => by
              have h1 : Below w.heap.size w wx := hl.trans ((hbz.trans (hb.mono (by omega))).mono (by omega))
              exact (show RawAt w (· < w.heap.size) _ r from ⟨_, rfl, H.out⟩).keep (below_sees h1) fun _ h => Nat.lt_of_lt_of_le h h1.size
            clear Hx HF HL hfo
            by_cases h8 : A2 = 8
            · subst h8
              have hz8 : Hid (compF r (A1, 8, A3, A4, A5) = (A1, 8, A3, A4, (rankR r A5 : Int))) := Lib.hid rfl
              go_wp2_with fail
              refine (l8Rank_any _ r A5 _ (Hraw.out _ hbA) hr1).mono ?_
              rintro e w8 ⟨rfl, hb8⟩
              have hB8 : Below wr.heap.size wr w8 := hbA.trans (hb8.mono hbA.size)
              have hxG8 := hxG.below hb8 hxG.lt
              have hxX8 := hbx.out.below hB8 hbx.out.lt
              generalize (rankR r A5 : Int) = z at hz8 ⊢
              have hB8' : Below wr.heap.size wr (w8.setCell ⟨wr.heap.size + 1, 4, none⟩ (.int .i64 z)) := hB8.setCell (by simp) _
              obtain ⟨e0, e1, e2, e3, e4, _⟩ := hxG8.fiveT
              have k4 := (hxG8.2 4 (by simp)).2
              have hGlt := hxG8.lt
              clear m0 m1 g0 g1 hxG hbA hb8 s0 s1 x0' x1' x2' x3' x4' hxG8
              obtain ⟨m0, m1, g0, g1⟩ := hxX8.two
              go_wp2_with fail
              refine (l8Put_any _ L (A1, 8, A3, A4, z) _ (Hfat.out _ hB8') hLl hVF.out).mono ?_
              rintro e w9 ⟨g', cap', rfl, hown9, hb9⟩
              have hE := Hend.out _ w9 z g' cap' hB8' hz8.out hown9 hb9
              have hxX9 := hbx.out.below (hB8'.trans (hb9.mono hB8'.size)) hbx.out.lt
              clear m0 m1 g0 g1 e0 e1 e2 e3 e4 k4
              obtain ⟨m0, m1, g0, g1⟩ := hxX9.two
              have HE := Lib.hid hE
              clear hE hown9 hb9
              go_wp2_with fail
              go_roundw
              case rel => exact ⟨q + 1, _, by omega, by go_num, Lib.hid (.inr ⟨g', 0, cap', by rw [← Hlenq.out]⟩), Lib.hid HE.out.1, Lib.hid HE.out.2.1, HE.out.2.2.1, HE.out.2.2.2⟩
              case measure => simp [intOf]; omega
            · have b8 := neB2 h8
              have hz8 : Hid (compF r (A1, A2, A3, A4, A5) = (A1, A2, A3, A4, -1)) := Lib.hid (by unfold compF; simp only; rw [if_neg h8])
              clear h8
              go_wp2_with fail
              clear m0 m1 g0 g1 s0 s1 x0' x1' x2' x3' x4'
              refine (l8Put_any _ L (A1, A2, A3, A4, -1) _ (Hfat.out _ hbA) hLl hVF.out).mono ?_
              rintro e w9 ⟨g', cap', rfl, hown9, hb9⟩
              have hE := Hend.out _ w9 (-1) g' cap' hbA hz8.out hown9 hb9
              have hxX9 := hbx.out.below (hbA.trans (hb9.mono hbA.size)) hbx.out.lt
              obtain ⟨m0, m1, g0, g1⟩ := hxX9.two
              have HE := Lib.hid hE
              clear hE hown9 hb9 hbA hxG
              go_wp2_with fail
              go_roundw
              case rel => exact ⟨q + 1, _, by omega, by go_num, Lib.hid (.inr ⟨g', 0, cap', by rw [← Hlenq.out]⟩), Lib.hid HE.out.1, Lib.hid HE.out.2.1, HE.out.2.2.1, HE.out.2.2.2⟩
              case measure => simp [intOf]; omega
          · have hge : (fs.length : Int) ≤ (q : Int) := by omega
            have hend : decide (q < fs.length) = false := decide_eq_false hqn
            have hqe : fs.take q = fs := List.take_of_length_le (by omega)
            have hfo2 : FOwn wr (wo.heap.size + 1) 34 (id, vf, compFs r fs) := by
              have := hfo.out
              rw [hqe] at this
              exact this
            have Hfo := Lib.hid hfo2
            have HC9 := Lib.hid (HC.out.below hbz)
            have Hold : Hid (∀ j (hj : j < ms.length) b, ms[j].2.1.ownBlock = some b → b < wo.heap.size) := Lib.hid fun j hj b hb => (World.ownsRow.lt (HC.out.2.1.fields j hj) b hb).2
            have HNew : Hid (∀ b, vf.ownBlock = some b → wo.heap.size + 1 ≤ b) := Lib.hid fun b hb => (World.ownsRow.lt hfo2 b hb).1
            have Hvw : Hid (V + 1 < wo.heap.size) := Lib.hid (by have := HC.out.2.2.2; omega)
            have hl9 : Below w.heap.size w wr := hl.trans (hbz.mono hl.size)
            have Hraw9 : RawAt wr.drew (· < wr.drew.heap.size) (.agg #[.slice (some ⟨b, o, none⟩) r.length cap]) r :=
              (show RawAt w (· < w.heap.size) _ r from ⟨_, rfl, H.out⟩).keep (below_sees hl9.drew) fun _ h => Nat.lt_of_lt_of_le h hl9.size
            obtain ⟨q0, _⟩ := HC9.out.1.2.2.2.2.one
            have hOz := HC9.out.1.2.2.2.2.1
            have hmn := HC9.out.2.2.1
            have hrkm : rankR r id < ms.length := by omega
            have hv1 : V + 1 < O ∧ w.heap.size + 1 + 1 < V ∧ V + 1 < wo.heap.size := by have h1 := Hvw.out; have h2 := HC9.out.2.2.2; omega
            have hrki : (rankR r id : Int) < (r.length : Int) := by omega
            obtain ⟨va, vc, hva⟩ : ∃ a c, vf = .slice a (compFs r fs).length c := ownsRow_form hfo2
            subst hva
            clear hqe hfo hfo2 hvf HC Hlenq
            go_wp2_with fail
            go_region_held3 (fun w' => w'.cell? ⟨O, 0, none⟩ = some (.slice (some ⟨V + 1, 0, none⟩) r.length r.length) ∧ w'.cell? ⟨w.heap.size, 0, none⟩ = some (.slice (some ⟨b, o, none⟩) r.length cap) ∧ w'.cell? ⟨wo.heap.size, 0, none⟩ = some (.int .i64 id) ∧ w'.cell? ⟨wo.heap.size, 1, none⟩ = some (.slice va (compFs r fs).length vc))
              (first | exact ⟨q0, s0, m0, m1⟩ | exact ⟨q8, r8, n0, n1⟩ | (refine ⟨?_, ?_, ?_, ?_⟩ <;> (rw [World.cell?_setCell_other _ _ _ _ (by intro e; injection e with e _; omega), World.cell?_setCell_other _ _ _ _ (by intro e; injection e with e _; omega)]; assumption)))
              (first | (go_at_call 82; refine (l8Rank_any _ r id _ Hraw9 hr1).mono ?_; rintro e w8 ⟨rfl, hb8⟩; have HC8 := HC9.out.below (undrewB hb8); have hx8 := hbx.out.drew.below hb8 hbx.out.lt; obtain ⟨n0, n1, _⟩ := hx8.two; obtain ⟨p0, p1, p2, p3⟩ := HC8.2.1.cellsAt hmn (rankR r id) hrkm; have hl8 := hl9.trans ((undrewB hb8).mono hl9.size); have Hfo8 := Lib.hid (ownsRow_below Hfo.out (undrewB hb8) fun k hk => (World.ownsRow.lt Hfo.out k hk).2); have hz8 := hb8.size; obtain ⟨q8, _⟩ := HC8.1.2.2.2.2.one; obtain ⟨r8, _⟩ := HC8.1.1.one))
            all_goals
              have HE : Hid (CSt ((w8.setCell ⟨V + 1, rankR r id * 2, none⟩ (.int .i64 id)).setCell ⟨V + 1, rankR r id * 2 + 1, none⟩ (.slice va (compFs r fs).length vc)) w.heap.size V O r.length cap (some ⟨b, o, none⟩) F2 F3 32 34 (ms.set (rankR r id) (id, .slice va (compFs r fs).length vc, compFs r fs))) :=
                Lib.hid (HC8.put (N := wo.heap.size + 1) hrk (ownsRow_base Hfo8.out (by have := Hvw.out; omega)) HNew.out (fun j hj b hb => by have := Hold.out j hj b hb; omega) (by have := Hvw.out; omega))
              have HP : Hid (plain (ms.set (rankR r id) (id, .slice va (compFs r fs).length vc, compFs r fs)) = (r.take (k + 1)).foldl (compStep r) (List.replicate r.length (0, []))) := Lib.hid (Hnext.out _ (plain_set _ _ _))
              have hVw : w.heap.size ≤ V + 1 := by have := HC8.2.2.2; omega
              clear p0 p1 p2 p3 n0 n1 hx8 HC8 q8 r8
              go_wp2_with fail
              go_roundw
              case rel => exact ⟨k + 1, by omega, by go_num, Lib.hid ⟨_, HP.out, HE.out⟩, (hl8.setCell (by simpa using hVw) _).setCell (by simpa using hVw) _⟩
              case measure => simp [intOf]; omega
      · have hge : (r.length : Int) ≤ (k : Int) := by omega
        have hend : decide (k < r.length) = false := decide_eq_false hlt
        have Hpp : Hid (plain ms = compileR r) := Lib.hid (by rw [Hp.out, List.take_of_length_le (by omega)]; rfl)
        have hvv := HC.out.2.2.2
        obtain ⟨q0, _⟩ := HC.out.1.2.2.2.2.one
        obtain ⟨v0, v1, v2, _⟩ := HC.out.1.2.2.2.1.three
        obtain ⟨d0, k0⟩ := HC.out.1.2.1.one
        obtain ⟨o0, o1, o2, l0, l1, l2⟩ := HC.out.1.2.2.1.three
        have xA : Box ((((wo.setCell ⟨w.heap.size + 1, 0, none⟩ (.slice (some ⟨V + 1, 0, none⟩) r.length r.length)).setCell ⟨w.heap.size + 1 + 1, 0, none⟩ (.int .i64 0)).setCell ⟨w.heap.size + 1 + 1, 1, none⟩ (.int .i64 F2)).setCell ⟨w.heap.size + 1 + 1, 2, none⟩ (.int .i64 F3)).drew (w.heap.size + 1) [.slice (some ⟨V + 1, 0, none⟩) r.length r.length] := ((Box.other (Box.other (Box.other (Box.set HC.out.1.2.1 0 (.slice (some ⟨V + 1, 0, none⟩) r.length r.length)) (a := ⟨w.heap.size + 1 + 1, 0, none⟩) (by simp) (.int .i64 0)) (a := ⟨w.heap.size + 1 + 1, 1, none⟩) (by simp) (.int .i64 F2)) (a := ⟨w.heap.size + 1 + 1, 2, none⟩) (by simp) (.int .i64 F3)) : Box ((((wo.setCell ⟨w.heap.size + 1, 0, none⟩ (.slice (some ⟨V + 1, 0, none⟩) r.length r.length)).setCell ⟨w.heap.size + 1 + 1, 0, none⟩ (.int .i64 0)).setCell ⟨w.heap.size + 1 + 1, 1, none⟩ (.int .i64 F2)).setCell ⟨w.heap.size + 1 + 1, 2, none⟩ (.int .i64 F3)) _ _).drew
        have oA : Box ((((wo.setCell ⟨w.heap.size + 1, 0, none⟩ (.slice (some ⟨V + 1, 0, none⟩) r.length r.length)).setCell ⟨w.heap.size + 1 + 1, 0, none⟩ (.int .i64 0)).setCell ⟨w.heap.size + 1 + 1, 1, none⟩ (.int .i64 F2)).setCell ⟨w.heap.size + 1 + 1, 2, none⟩ (.int .i64 F3)).drew (w.heap.size + 1 + 1) [.int .i64 0, .int .i64 F2, .int .i64 F3] := ((Box.set (Box.set (Box.set (Box.other HC.out.1.2.2.1 (a := ⟨w.heap.size + 1, 0, none⟩) (by simp) (.slice (some ⟨V + 1, 0, none⟩) r.length r.length)) 0 (.int .i64 0)) 1 (.int .i64 F2)) 2 (.int .i64 F3)) : Box ((((wo.setCell ⟨w.heap.size + 1, 0, none⟩ (.slice (some ⟨V + 1, 0, none⟩) r.length r.length)).setCell ⟨w.heap.size + 1 + 1, 0, none⟩ (.int .i64 0)).setCell ⟨w.heap.size + 1 + 1, 1, none⟩ (.int .i64 F2)).setCell ⟨w.heap.size + 1 + 1, 2, none⟩ (.int .i64 F3)) _ _).drew
        obtain ⟨xA0, _⟩ := xA.one
        obtain ⟨oA0, oA1, oA2, _⟩ := Box.three oA
        clear xA oA
        have PA : Hid (CompiledO w ((((wo.setCell ⟨w.heap.size + 1, 0, none⟩ (.slice (some ⟨V + 1, 0, none⟩) r.length r.length)).setCell ⟨w.heap.size + 1 + 1, 0, none⟩ (.int .i64 0)).setCell ⟨w.heap.size + 1 + 1, 1, none⟩ (.int .i64 F2)).setCell ⟨w.heap.size + 1 + 1, 2, none⟩ (.int .i64 F3)).drew 32 34 r (0, F2, F3) (.slice (some ⟨V + 1, 0, none⟩) r.length r.length)) := Lib.hid ⟨Hf.out, .inr ⟨rfl, ms, Hpp.out, by
          have h := (OwnRaw.other (OwnRaw.other (OwnRaw.other (OwnRaw.other HC.out.2.1 (p := ⟨w.heap.size + 1, 0, none⟩) (.slice (some ⟨V + 1, 0, none⟩) r.length r.length) (HC.out.2.1.out (k := w.heap.size + 1) (by omega)).1 (HC.out.2.1.out (k := w.heap.size + 1) (by omega)).2) (p := ⟨w.heap.size + 1 + 1, 0, none⟩) (.int .i64 0) (HC.out.2.1.out (k := w.heap.size + 1 + 1) (by omega)).1 (HC.out.2.1.out (k := w.heap.size + 1 + 1) (by omega)).2) (p := ⟨w.heap.size + 1 + 1, 1, none⟩) (.int .i64 F2) (HC.out.2.1.out (k := w.heap.size + 1 + 1) (by omega)).1 (HC.out.2.1.out (k := w.heap.size + 1 + 1) (by omega)).2) (p := ⟨w.heap.size + 1 + 1, 2, none⟩) (.int .i64 F3) (HC.out.2.1.out (k := w.heap.size + 1 + 1) (by omega)).1 (HC.out.2.1.out (k := w.heap.size + 1 + 1) (by omega)).2)
          exact h.drew.base (by omega)⟩⟩
        have xB : Box ((((wo.setCell ⟨w.heap.size + 1 + 1, 0, none⟩ (.int .i64 0)).setCell ⟨w.heap.size + 1 + 1, 1, none⟩ (.int .i64 F2)).setCell ⟨w.heap.size + 1 + 1, 2, none⟩ (.int .i64 F3)).setCell ⟨w.heap.size + 1, 0, none⟩ (.slice (some ⟨V + 1, 0, none⟩) r.length r.length)).drew (w.heap.size + 1) [.slice (some ⟨V + 1, 0, none⟩) r.length r.length] := ((Box.set (Box.other (Box.other (Box.other HC.out.1.2.1 (a := ⟨w.heap.size + 1 + 1, 0, none⟩) (by simp) (.int .i64 0)) (a := ⟨w.heap.size + 1 + 1, 1, none⟩) (by simp) (.int .i64 F2)) (a := ⟨w.heap.size + 1 + 1, 2, none⟩) (by simp) (.int .i64 F3)) 0 (.slice (some ⟨V + 1, 0, none⟩) r.length r.length)) : Box ((((wo.setCell ⟨w.heap.size + 1 + 1, 0, none⟩ (.int .i64 0)).setCell ⟨w.heap.size + 1 + 1, 1, none⟩ (.int .i64 F2)).setCell ⟨w.heap.size + 1 + 1, 2, none⟩ (.int .i64 F3)).setCell ⟨w.heap.size + 1, 0, none⟩ (.slice (some ⟨V + 1, 0, none⟩) r.length r.length)) _ _).drew
        have oB : Box ((((wo.setCell ⟨w.heap.size + 1 + 1, 0, none⟩ (.int .i64 0)).setCell ⟨w.heap.size + 1 + 1, 1, none⟩ (.int .i64 F2)).setCell ⟨w.heap.size + 1 + 1, 2, none⟩ (.int .i64 F3)).setCell ⟨w.heap.size + 1, 0, none⟩ (.slice (some ⟨V + 1, 0, none⟩) r.length r.length)).drew (w.heap.size + 1 + 1) [.int .i64 0, .int .i64 F2, .int .i64 F3] := ((Box.other (Box.set (Box.set (Box.set HC.out.1.2.2.1 0 (.int .i64 0)) 1 (.int .i64 F2)) 2 (.int .i64 F3)) (a := ⟨w.heap.size + 1, 0, none⟩) (by simp) (.slice (some ⟨V + 1, 0, none⟩) r.length r.length)) : Box ((((wo.setCell ⟨w.heap.size + 1 + 1, 0, none⟩ (.int .i64 0)).setCell ⟨w.heap.size + 1 + 1, 1, none⟩ (.int .i64 F2)).setCell ⟨w.heap.size + 1 + 1, 2, none⟩ (.int .i64 F3)).setCell ⟨w.heap.size + 1, 0, none⟩ (.slice (some ⟨V + 1, 0, none⟩) r.length r.length)) _ _).drew
        obtain ⟨xB0, _⟩ := xB.one
        obtain ⟨oB0, oB1, oB2, _⟩ := Box.three oB
        clear xB oB
        have PB : Hid (CompiledO w ((((wo.setCell ⟨w.heap.size + 1 + 1, 0, none⟩ (.int .i64 0)).setCell ⟨w.heap.size + 1 + 1, 1, none⟩ (.int .i64 F2)).setCell ⟨w.heap.size + 1 + 1, 2, none⟩ (.int .i64 F3)).setCell ⟨w.heap.size + 1, 0, none⟩ (.slice (some ⟨V + 1, 0, none⟩) r.length r.length)).drew 32 34 r (0, F2, F3) (.slice (some ⟨V + 1, 0, none⟩) r.length r.length)) := Lib.hid ⟨Hf.out, .inr ⟨rfl, ms, Hpp.out, by
          have h := (OwnRaw.other (OwnRaw.other (OwnRaw.other (OwnRaw.other HC.out.2.1 (p := ⟨w.heap.size + 1 + 1, 0, none⟩) (.int .i64 0) (HC.out.2.1.out (k := w.heap.size + 1 + 1) (by omega)).1 (HC.out.2.1.out (k := w.heap.size + 1 + 1) (by omega)).2) (p := ⟨w.heap.size + 1 + 1, 1, none⟩) (.int .i64 F2) (HC.out.2.1.out (k := w.heap.size + 1 + 1) (by omega)).1 (HC.out.2.1.out (k := w.heap.size + 1 + 1) (by omega)).2) (p := ⟨w.heap.size + 1 + 1, 2, none⟩) (.int .i64 F3) (HC.out.2.1.out (k := w.heap.size + 1 + 1) (by omega)).1 (HC.out.2.1.out (k := w.heap.size + 1 + 1) (by omega)).2) (p := ⟨w.heap.size + 1, 0, none⟩) (.slice (some ⟨V + 1, 0, none⟩) r.length r.length) (HC.out.2.1.out (k := w.heap.size + 1) (by omega)).1 (HC.out.2.1.out (k := w.heap.size + 1) (by omega)).2)
          exact h.drew.base (by omega)⟩⟩
        go_wp2_with fail
        go_region_with fail
        all_goals
          go_wp2_with fail
          refine bodyPost_ret (v := .tuple #[.agg #[.slice (some ⟨V + 1, 0, none⟩) r.length r.length], .agg #[.int .i64 0, .int .i64 F2, .int .i64 F3]]) (by simp [results, Try.results70, go_sem, xA0, oA0, oA1, oA2, xB0, oB0, oB1, oB2]) rfl ⟨(0, F2, F3), _, (by first | exact PA.out | exact PB.out), rfl, ?_⟩
          refine Below.drew ?_
          repeat (first | exact hl | refine Below.setCell ?_ (by first | (show w.heap.size ≤ w.heap.size + 1 + 1; omega) | (show w.heap.size ≤ w.heap.size + 1; omega)) _)
  · have bF := neB2 hF
    have bF' : (F1 != 0) = true := by rw [bne, bF]; rfl
    have hne := Lib.hid hF
    clear hF
    have xA : Box (((((w4.setCell ⟨w.heap.size + 1, 0, none⟩ (.slice none 0 0)).setCell ⟨w.heap.size + 1 + 1, 0, none⟩ (.int .i64 F1)).setCell ⟨w.heap.size + 1 + 1, 1, none⟩ (.int .i64 F2)).setCell ⟨w.heap.size + 1 + 1, 2, none⟩ (.int .i64 F3)).alloc (.cells #[.int .i64 F1, .int .i64 F2, .int .i64 F3] 100)).drew (w.heap.size + 1) [.slice none 0 0] := (Box.alloc ((((HX4.out.set 0 (.slice none 0 0)).other (a := ⟨w.heap.size + 1 + 1, 0, none⟩) (by simp) (.int .i64 F1)).other (a := ⟨w.heap.size + 1 + 1, 1, none⟩) (by simp) (.int .i64 F2)).other (a := ⟨w.heap.size + 1 + 1, 2, none⟩) (by simp) (.int .i64 F3)) _).drew
    have oA : Box (((((w4.setCell ⟨w.heap.size + 1, 0, none⟩ (.slice none 0 0)).setCell ⟨w.heap.size + 1 + 1, 0, none⟩ (.int .i64 F1)).setCell ⟨w.heap.size + 1 + 1, 1, none⟩ (.int .i64 F2)).setCell ⟨w.heap.size + 1 + 1, 2, none⟩ (.int .i64 F3)).alloc (.cells #[.int .i64 F1, .int .i64 F2, .int .i64 F3] 100)).drew (w.heap.size + 1 + 1) [.int .i64 F1, .int .i64 F2, .int .i64 F3] := (Box.alloc (Box.set (Box.set (Box.set (HO4.out.other (a := ⟨w.heap.size + 1, 0, none⟩) (by simp) (.slice none 0 0)) 0 (.int .i64 F1)) 1 (.int .i64 F2)) 2 (.int .i64 F3)) _).drew
    obtain ⟨xA0, _⟩ := xA.one
    obtain ⟨oA0, oA1, oA2, _⟩ := Box.three oA
    clear xA oA
    have xB : Box (((((w4.setCell ⟨w.heap.size + 1 + 1, 0, none⟩ (.int .i64 F1)).setCell ⟨w.heap.size + 1 + 1, 1, none⟩ (.int .i64 F2)).setCell ⟨w.heap.size + 1 + 1, 2, none⟩ (.int .i64 F3)).setCell ⟨w.heap.size + 1, 0, none⟩ (.slice none 0 0)).alloc (.cells #[.int .i64 F1, .int .i64 F2, .int .i64 F3] 100)).drew (w.heap.size + 1) [.slice none 0 0] := (Box.alloc (Box.set (((HX4.out.other (a := ⟨w.heap.size + 1 + 1, 0, none⟩) (by simp) (.int .i64 F1)).other (a := ⟨w.heap.size + 1 + 1, 1, none⟩) (by simp) (.int .i64 F2)).other (a := ⟨w.heap.size + 1 + 1, 2, none⟩) (by simp) (.int .i64 F3)) 0 (.slice none 0 0)) _).drew
    have oB : Box (((((w4.setCell ⟨w.heap.size + 1 + 1, 0, none⟩ (.int .i64 F1)).setCell ⟨w.heap.size + 1 + 1, 1, none⟩ (.int .i64 F2)).setCell ⟨w.heap.size + 1 + 1, 2, none⟩ (.int .i64 F3)).setCell ⟨w.heap.size + 1, 0, none⟩ (.slice none 0 0)).alloc (.cells #[.int .i64 F1, .int .i64 F2, .int .i64 F3] 100)).drew (w.heap.size + 1 + 1) [.int .i64 F1, .int .i64 F2, .int .i64 F3] := (Box.alloc (Box.other (Box.set (Box.set (Box.set HO4.out 0 (.int .i64 F1)) 1 (.int .i64 F2)) 2 (.int .i64 F3)) (a := ⟨w.heap.size + 1, 0, none⟩) (by simp) (.slice none 0 0)) _).drew
    obtain ⟨xB0, _⟩ := xB.one
    obtain ⟨oB0, oB1, oB2, _⟩ := Box.three oB
    clear xB oB
    go_wp2_with fail
    go_region_with fail
    all_goals
      go_wp2_with fail
      refine bodyPost_ret (v := .tuple #[.agg #[.slice none 0 0], .agg #[.int .i64 F1, .int .i64 F2, .int .i64 F3]]) (by simp [results, Try.results70, go_sem, xA0, oA0, oA1, oA2, xB0, oB0, oB1, oB2]) rfl ⟨(F1, F2, F3), _, ⟨Hf.out, .inl ⟨hne.out, rfl⟩⟩, rfl, ?_⟩
      refine Below.drew (Below.alloc ?_ (by simp; omega) _)
      repeat (first | exact hl4 | refine Below.setCell ?_ (by first | (show w.heap.size ≤ w.heap.size + 1 + 1; omega) | (show w.heap.size ≤ w.heap.size + 1; omega)) _)
theorem specCompile_any (v : Value) (r : List RM) (w : World) (h : RawAt w (· < w.heap.size) v r) (hr : Small r) :
    Calls Try.prog 70 #[v] w fun e w' => ∃ f u, Compiled w w' r f u ∧ e = .returned (.tuple #[.agg #[u], violV f]) ∧ Below w.heap.size w w' :=
  (specCompile_own v r w h hr).mono fun e w' ⟨f, u, hc, he, hb⟩ => ⟨f, u, hc.plain, he, hb⟩
end Go.Proofs.Ythjnpipincpkgaa.Num
