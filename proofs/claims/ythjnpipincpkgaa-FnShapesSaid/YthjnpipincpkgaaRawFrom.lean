/-
  The walk of the reference's RawFrom: the schema's shapes and fields, with Ids in the place of indices; only new memory is written.
-/
import Derived.Test.YthjnpipincpkgaaPushWith
import Derived.Test.YthjnpipincpkgaaRound
import Derived.Test.YthjnpipincpkgaaSchemaOk
namespace Go.Proofs.Ythjnpipincpkgaa.Num
open Go.RowKit Go.Proofs
set_option linter.unusedVariables false
set_option linter.unusedSimpArgs false

/-- A field with the Id of its message in the place of the index. -/
def backF (s : List RM) (f : RF) : RF := (f.1, f.2.1, f.2.2.1, f.2.2.2.1, if f.2.1 = 8 then (s.getD f.2.2.2.2.toNat (0, [])).1 else 0)
def backM (s : List RM) (m : RM) : RM := (m.1, m.2.map (backF s))
noncomputable def rawFromR (s : List RM) : List RM := if schemaB s = true then s.map (backM s) else []
theorem small_rawFrom {s : List RM} (h : Small s) : Small (rawFromR s) := by
  unfold rawFromR
  split
  · refine ⟨by simpa using h.1, fun m hm => ?_⟩
    obtain ⟨x, hx, rfl⟩ := List.mem_map.1 hm
    simpa [backM] using h.2 x hx
  · exact ⟨by simp, fun m hm => by simp at hm⟩
theorem schemaB_of {s : List RM} (h : schemaB s = true) : SchemaP s := Classical.byContradiction fun h' => by rw [schema_no h'] at h; cases h
theorem apart_of {u v : Value} {n : Nat} (hu : ∀ k, u.ownBlock = some k → k < n) (hv : ∀ k, v.ownBlock = some k → n < k) : Apart u v ∧ Apart v u := by
  refine ⟨?_, ?_⟩
  · cases h : u.ownBlock with
    | none => exact .inl h
    | some k => exact .inr fun e => by have h1 := hu k h; rw [h] at e; have h2 := hv k e.symm; omega
  · cases h : v.ownBlock with
    | none => exact .inl h
    | some k => exact .inr fun e => by have h1 := hv k h; rw [h] at e; have h2 := hu k e.symm; omega
theorem infoF : (Try.prog.info? 78).map (fun i => (i.zero, i.size, i.bytes)) = some (some (.agg #[.int .i64 0, .int .i64 0, .bool false, .bool false, .int .i64 0]), 5, 32) := by kernel_rfl
theorem infoM : (Try.prog.info? 76).map (fun i => (i.zero, i.size, i.bytes)) = some (some (.agg #[.int .i64 0, .slice none 0 0]), 2, 32) := by kernel_rfl
set_option maxHeartbeats 8000000 in
set_option maxRecDepth 100000 in
theorem specRawFrom_any (v : Value) (r : List RM) (w : World) (h : RawAt w (· < w.heap.size) v r) (hr : Small r) :
    Calls Try.prog 23 #[v] w fun e w' => ∃ u, e = .returned u ∧ RawAt w' (fun b => w.heap.size ≤ b ∧ b < w'.heap.size) u (rawFromR r) ∧ Below w.heap.size w w' := by
  obtain ⟨i0, hi, hz0, hz1, hz2⟩ := info_parts infoM
  obtain ⟨j0, hj, hj0, hj1, hj2⟩ := info_parts infoF
  have Hsm := Lib.hid hr
  obtain ⟨u, rfl, hu⟩ := h
  obtain ⟨a, cap, rfl⟩ := hu.len
  have H := Lib.hid hu
  have Hr := Lib.hid hr.2
  have hr1 := hr.1
  clear hu hr
  go_enter Try.func23, Try.ntmps23
  go_wp2_with fail
  have hb3 : Below w.heap.size w (((w.alloc (.cells #[.slice a r.length cap] 26)).alloc (.cells #[.slice none 0 0] 49)).alloc (.cells #[.slice none 0 0] 49)) := (((Below.refl _ _).alloc (Nat.le_refl _) _).alloc (by simp) _).alloc (by simp; omega) _
  have hs3 : Box (((w.alloc (.cells #[.slice a r.length cap] 26)).alloc (.cells #[.slice none 0 0] 49)).alloc (.cells #[.slice none 0 0] 49)) w.heap.size [.slice a r.length cap] := ((Box.fresh _ _ _).alloc _).alloc _
  have hx3 : Box (((w.alloc (.cells #[.slice a r.length cap] 26)).alloc (.cells #[.slice none 0 0] 49)).alloc (.cells #[.slice none 0 0] 49)) (w.heap.size + 1) [.slice none 0 0] := by
    have h := (Box.fresh (w.alloc (.cells #[.slice a r.length cap] 26)) #[.slice none 0 0] 49).alloc (.cells #[.slice none 0 0] 49)
    rwa [show (w.alloc (.cells #[.slice a r.length cap] 26)).heap.size = w.heap.size + 1 by simp] at h
  have ho3 : Box (((w.alloc (.cells #[.slice a r.length cap] 26)).alloc (.cells #[.slice none 0 0] 49)).alloc (.cells #[.slice none 0 0] 49)) (w.heap.size + 1 + 1) [.slice none 0 0] := by
    have h := Box.fresh ((w.alloc (.cells #[.slice a r.length cap] 26)).alloc (.cells #[.slice none 0 0] 49)) #[.slice none 0 0] 49
    rwa [show ((w.alloc (.cells #[.slice a r.length cap] 26)).alloc (.cells #[.slice none 0 0] 49)).heap.size = w.heap.size + 1 + 1 by simp] at h
  have hz3 : w.heap.size + 1 + 1 < (((w.alloc (.cells #[.slice a r.length cap] 26)).alloc (.cells #[.slice none 0 0] 49)).alloc (.cells #[.slice none 0 0] 49)).heap.size := by simp
  generalize (((w.alloc (.cells #[.slice a r.length cap] 26)).alloc (.cells #[.slice none 0 0] 49)).alloc (.cells #[.slice none 0 0] 49)) = w3 at hb3 hs3 hx3 ho3 hz3 ⊢
  obtain ⟨G, hG⟩ : ∃ G, schemaB r = G := ⟨_, rfl⟩
  refine (specSchemaOk_any _ r _ ((show RawAt w (· < w.heap.size) _ r from ⟨_, rfl, H.out⟩).keep (.of_below hb3 fun _ h => h) fun _ h => Nat.lt_of_lt_of_le h hb3.size) Hsm.out).mono ?_
  rw [hG]
  rintro e w4 ⟨rfl, hb4⟩
  have HS4 := Lib.hid (hs3.below hb4 (by omega))
  have HX4 := Lib.hid (hx3.below hb4 (by omega))
  have HO4 := Lib.hid (ho3.below hb4 (by omega))
  have hl4 := hb3.trans (hb4.mono hb3.size)
  have hz4 := Nat.lt_of_lt_of_le hz3 hb4.size
  clear hb3 hs3 hx3 ho3 hz3 hb4
  obtain ⟨s0, _⟩ := HS4.out.one
  obtain ⟨x0, xf0⟩ := HX4.out.one
  obtain ⟨o0, of0⟩ := HO4.out.one
  cases G with
  | false =>
    have He : Hid (rawFromR r = []) := Lib.hid (by unfold rawFromR; rw [hG]; rfl)
    have hx5 := HX4.out.set 0 (.slice none 0 0)
    have y0 : (w4.setCell ⟨w.heap.size + 1, 0, none⟩ (.slice none 0 0)).cell? ⟨w.heap.size + 1, 0, none⟩ = some (.slice none 0 0) := (hx5.2 0 (by simp)).1
    go_wp2_with fail
    refine bodyPost_ret (v := .agg #[.slice none 0 0]) (by simp [results, Try.results23, go_sem, y0]) rfl ?_
    exact ⟨_, rfl, by rw [He.out]; exact ⟨_, rfl, .inl ⟨rfl, _, _, rfl⟩⟩, hl4.setCell (by simp) _⟩
  | true =>
    have HP := Lib.hid (schemaB_of hG)
    have He : Hid (rawFromR r = r.map (backM r)) := Lib.hid (by unfold rawFromR; rw [hG]; rfl)
    have h66 := HP.out.1
    clear hG
    go_wp2_with fail
    go_loopw [4] (fun i wr => ∃ (k : Nat) (ms : List OM) (vm : Value), k ≤ r.length ∧ i = .int .i64 k ∧ Hid (plain ms = (r.take k).map (backM r)) ∧ Hid (OwnRaw wr (w.heap.size + 1 + 1 + 1) 76 78 vm ms) ∧ Hid (Box wr w.heap.size [.slice a r.length cap]) ∧ Hid (Box wr (w.heap.size + 1) [.slice none 0 0]) ∧ Hid (Box wr (w.heap.size + 1 + 1) [vm]) ∧ Below w.heap.size w wr) (fun i _ => r.length - (intOf i).toNat)
    case atStart => exact ⟨0, [], _, by omega, rfl, Lib.hid (by simp [plain]), Lib.hid (OwnRaw.start _ _ _ _), HS4, HX4, HO4, hl4⟩
    case round =>
      clear HS4 HX4 HO4 hl4 s0 x0 xf0 o0 of0 hz4
      obtain ⟨k, ms, vm, hk, rfl, hplain, hown, HS, HX, HO, hl⟩ := hrel
      obtain ⟨s0, _⟩ := HS.out.one
      obtain ⟨x0, xf0⟩ := HX.out.one
      obtain ⟨o0, of0⟩ := HO.out.one
      have hmsl : ms.length = k := by
        have h := congrArg List.length hplain.out
        simp [plain] at h
        omega
      by_cases hlt : k < r.length
      · obtain ⟨wo, rfl⟩ : ∃ wo : World, wo = wr := ⟨_, rfl⟩
        have hlti : (k : Int) < (r.length : Int) := by omega
        obtain ⟨b, o, c, hv, hbC, hcs⟩ := H.out.cells (by omega)
        obtain ⟨rfl, rfl⟩ : a = some ⟨b, o, none⟩ ∧ cap = c := by injection hv with e1 e2 e3; exact ⟨e1, e3⟩
        have Hcs := Lib.hid hcs
        obtain ⟨x, d0, d1, hx⟩ := hcs k hlt
        obtain ⟨xa, xc, rfl⟩ := hx.len
        have Hx := Lib.hid hx
        have Hgood := Lib.hid (HP.out.2 k hlt)
        have hf8 : r[k].2.length ≤ 8 := Hgood.out.2.2.1
        have Hnext : Hid (∀ ms' : List OM, plain ms' = (r.take k).map (backM r) ++ [backM r r[k]] → plain ms' = (r.take (k + 1)).map (backM r)) := Lib.hid fun ms' h => by rw [h, List.take_succ_eq_append_getElem hlt, List.map_append]; rfl
        clear hcs hv hx
        rw [← hl.cell (p := ⟨b, _, none⟩) hbC] at d0 d1
        have hbw : b < wo.heap.size := Nat.lt_of_lt_of_le hbC hl.size
        have hzw : w.heap.size + 1 + 1 < wo.heap.size := HO.out.lt
        generalize hrk : r[k] = m at d0 d1 hf8 Hx Hgood Hnext
        obtain ⟨id, fs⟩ := m
        simp only at d0 d1 hf8 Hx Hgood Hnext
        clear hrk
        go_wp2_with fail
        have hm1 := Box.fresh wo #[.int .i64 id, .slice none 0 0] 76
        have hbm : Below wo.heap.size wo (wo.alloc (.cells #[.int .i64 id, .slice none 0 0] 76)) := (Below.refl _ _).alloc (Nat.le_refl _) _
        have hzm : (wo.alloc (.cells #[.int .i64 id, .slice none 0 0] 76)).heap.size = wo.heap.size + 1 := by simp
        generalize wo.alloc (.cells #[.int .i64 id, .slice none 0 0] 76) = wm at hm1 hbm hzm ⊢
        have Hd : Hid (∀ wx : World, Below wo.heap.size wo wx → wx.cell? ⟨b, o + k * 2 + 1, none⟩ = some (.slice xa fs.length xc)) := Lib.hid fun wx hb => (hb.cell (p := ⟨b, _, none⟩) hbw).trans d1
        have HM : Hid (∀ (wx : World) (M : Nat) (hM : M < r.length), Below wo.heap.size wo wx → wx.cell? ⟨b, o + M * 2, none⟩ = some (.int .i64 r[M].1)) := Lib.hid fun wx M hM hb => by
          obtain ⟨y, e0, _, _⟩ := Hcs.out M hM
          exact (hb.cell (p := ⟨b, _, none⟩) hbw).trans ((hl.cell (p := ⟨b, _, none⟩) hbC).trans e0)
        clear d0 d1
        go_loopw [6] (fun i wr => ∃ (q : Nat) (vf : Value), q ≤ fs.length ∧ i = .int .i64 q ∧ Hid (wr.ownsRow (wo.heap.size + 1) 78 5 vf q (((fs.take q).map (backF r)).flatMap fieldC)) ∧ Hid (Box wr wo.heap.size [.int .i64 id, vf]) ∧ Below wo.heap.size wo wr ∧ wo.heap.size + 1 ≤ wr.heap.size) (fun i _ => fs.length - (intOf i).toNat)
        case atStart => exact ⟨0, _, by omega, rfl, Lib.hid (World.ownsRow_nil _ _ _ _), Lib.hid hm1, hbm, by omega⟩
        case round =>
          clear hm1 hbm hzm
          obtain ⟨q, vf, hq, rfl, hrow, hbx, hbz, hzz⟩ := hrel
          have s1 := (hbz.cell (p := ⟨w.heap.size, 0, none⟩) (by simp; omega)).trans s0
          obtain ⟨m0, m1, g0, g1⟩ := hbx.out.two
          have e1 := Hd.out wr hbz
          by_cases hqn : q < fs.length
          · have hqi : (q : Int) < (fs.length : Int) := by omega
            obtain ⟨fb, fo, fc, fv, fbC, fcs⟩ := Hx.out.cells (by omega)
            obtain ⟨rfl, rfl⟩ : xa = some ⟨fb, fo, none⟩ ∧ xc = fc := by injection fv with e1 e2 e3; exact ⟨e1, e3⟩
            obtain ⟨x0', x1', x2', x3', x4'⟩ := fcs q hqn
            clear fcs fv
            have hfw : fb < wo.heap.size := Nat.lt_of_lt_of_le fbC hl.size
            rw [← hl.cell (p := ⟨fb, _, none⟩) fbC, ← hbz.cell (p := ⟨fb, _, none⟩) hfw] at x0' x1' x2' x3' x4'
            have hfz : fb < wr.heap.size := Nat.lt_of_lt_of_le hfw hbz.size
            have hbz2 : b < wr.heap.size := Nat.lt_of_lt_of_le hbw hbz.size
            have hgz : wo.heap.size < wr.heap.size := by omega
            have hwz : w.heap.size < wr.heap.size := by omega
            have Hfg := Lib.hid (Hgood.out.2.2.2 q hqn).1
            have HF : Hid (∀ z : Int, backF r fs[q] = (fs[q].1, fs[q].2.1, fs[q].2.2.1, fs[q].2.2.2.1, z) → ((fs.take q).map (backF r)).flatMap fieldC ++ fieldC (fs[q].1, fs[q].2.1, fs[q].2.2.1, fs[q].2.2.2.1, z) = ((fs.take (q + 1)).map (backF r)).flatMap fieldC) := Lib.hid fun z hz => by
              rw [List.take_succ_eq_append_getElem hqn, List.map_append, List.flatMap_append, ← hz]; simp
            generalize fs[q] = f at x0' x1' x2' x3' x4' Hfg HF
            obtain ⟨A1, A2, A3, A4, A5⟩ := f
            simp only at x0' x1' x2' x3' x4' HF
            by_cases h8 : A2 = 8
            · obtain ⟨M, hM, rfl⟩ : ∃ M : Nat, M < r.length ∧ A5 = (M : Int) := by
                have h := Hfg.out
                subst h8
                unfold fieldOkB at h
                simp only at h
                split at h
                · cases h
                · split at h
                  · cases h
                  · split at h
                    · cases h
                    · have h' := of_decide_eq_true h
                      exact ⟨A5.toNat, by omega, by omega⟩
              have eM := HM.out wr M hM hbz
              have hMi : (M : Int) < (r.length : Int) := by omega
              have hid8 : backF r (A1, A2, A3, A4, (M : Int)) = (A1, A2, A3, A4, r[M].1) := by
                unfold backF
                simp only
                rw [if_pos h8, Int.toNat_natCast, List.getD, List.getElem?_eq_getElem hM]; rfl
              subst h8
              have hnew : (((wr.alloc (.cells #[.int .i64 A1, .int .i64 8, .bool A3, .bool A4, .int .i64 (M : Nat)] 34)).alloc (.cells #[.int .i64 A1, .int .i64 8, .bool A3, .bool A4, .int .i64 r[M].1] 78)).alloc (.cells #[.int .i64 A1, .int .i64 8, .bool A3, .bool A4, .int .i64 r[M].1] 78)).heap[wr.heap.size + 1 + 1]? = some (.cells #[.int .i64 A1, .int .i64 8, .bool A3, .bool A4, .int .i64 r[M].1] 78 (0, 0)) := by
                have := heap_alloc_new ((wr.alloc (.cells #[.int .i64 A1, .int .i64 8, .bool A3, .bool A4, .int .i64 (M : Nat)] 34)).alloc (.cells #[.int .i64 A1, .int .i64 8, .bool A3, .bool A4, .int .i64 r[M].1] 78)) (.cells #[.int .i64 A1, .int .i64 8, .bool A3, .bool A4, .int .i64 r[M].1] 78)
                simpa using this
              go_wp2_with (at_builtin; refine wpList_append_lies _ (by rfl) (.tmp 69) (.tmp 71) 74 (by rfl) (wo.heap.size + 1) 78 j0 _ 5 32 Try.underlying74 hj hj0 hj1 hj2 (by rfl) (by omega) vf _ _ (by rfl) (World.ownsRow.alloc (World.ownsRow.alloc (World.ownsRow.alloc hrow.out _) _) _) ⟨wr.heap.size + 1 + 1, 0, none⟩ 1 1 [.int .i64 A1, .int .i64 8, .bool A3, .bool A4, .int .i64 r[M].1] (by rfl) (by rfl) (fun j u hj => World.news_of_block hnew j u hj) (by intro u hu; simp at hu; rcases hu with rfl | rfl | rfl | rfl | rfl <;> rfl) (by omega) (by unfold maxLen; omega) (by omega) (by simp; omega) (wr.heap.size + 3) (by simp) ?_; intro g' cap' w2 hown2 hg2 hor2 hlt2; have hb2 := Lib.hid (Box.grown hg2 (((hbx.out.alloc _).alloc _).alloc _) (fun k hk => by have := (World.ownsRow.lt hrow.out k hk).1; omega)); obtain ⟨n0, n1, k0, k1⟩ := Box.two hb2.out)
              have Hrow2 : Hid (w2.ownsRow (wo.heap.size + 1) 78 5 (.slice (some ⟨g', 0, none⟩) (q + 1) cap') (q + 1) (((fs.take (q + 1)).map (backF r)).flatMap fieldC)) := Lib.hid (by rw [← HF.out _ hid8]; exact hown2)
              have hne2 : wo.heap.size ≠ g' := by have := (World.ownsRow.lt hown2 g' rfl).1; omega
              have Hb3 : Hid (Below wo.heap.size wo w2) := Lib.hid ((((hbz.alloc (by omega) _).alloc (by simp; omega) _).alloc (by simp; omega) _).grown hg2 (by simp; omega) (fun k hk => by have := (World.ownsRow.lt hrow.out k hk).1; omega))
              have hz2 : wo.heap.size + 1 ≤ w2.heap.size := by have := hg2.size; simp at this; omega
              clear hown2 hg2 hor2 hnew
              go_roundw
              case rel => exact ⟨q + 1, _, by omega, by go_num, Lib.hid (ownsRow_setCell_other Hrow2.out (a := ⟨wo.heap.size, 1, none⟩) (by simp [Value.ownBlock]; omega) _), Lib.hid (hb2.out.set 1 _), Hb3.out.setCell (by simp) _, by simpa [World.setCell] using hz2⟩
              case measure => simp [intOf]; omega
            · have hb8 : (A2 == 8) = false := neS h8
              have hid0 : backF r (A1, A2, A3, A4, A5) = (A1, A2, A3, A4, 0) := by
                unfold backF
                simp only
                rw [if_neg h8]
              clear h8
              have hnew : (((wr.alloc (.cells #[.int .i64 A1, .int .i64 A2, .bool A3, .bool A4, .int .i64 A5] 34)).alloc (.cells #[.int .i64 A1, .int .i64 A2, .bool A3, .bool A4, .int .i64 0] 78)).alloc (.cells #[.int .i64 A1, .int .i64 A2, .bool A3, .bool A4, .int .i64 0] 78)).heap[wr.heap.size + 1 + 1]? = some (.cells #[.int .i64 A1, .int .i64 A2, .bool A3, .bool A4, .int .i64 0] 78 (0, 0)) := by
                have := heap_alloc_new ((wr.alloc (.cells #[.int .i64 A1, .int .i64 A2, .bool A3, .bool A4, .int .i64 A5] 34)).alloc (.cells #[.int .i64 A1, .int .i64 A2, .bool A3, .bool A4, .int .i64 0] 78)) (.cells #[.int .i64 A1, .int .i64 A2, .bool A3, .bool A4, .int .i64 0] 78)
                simpa using this
              go_wp2_with (at_builtin; refine wpList_append_lies _ (by rfl) (.tmp 69) (.tmp 71) 74 (by rfl) (wo.heap.size + 1) 78 j0 _ 5 32 Try.underlying74 hj hj0 hj1 hj2 (by rfl) (by omega) vf _ _ (by rfl) (World.ownsRow.alloc (World.ownsRow.alloc (World.ownsRow.alloc hrow.out _) _) _) ⟨wr.heap.size + 1 + 1, 0, none⟩ 1 1 [.int .i64 A1, .int .i64 A2, .bool A3, .bool A4, .int .i64 0] (by rfl) (by rfl) (fun j u hj => World.news_of_block hnew j u hj) (by intro u hu; simp at hu; rcases hu with rfl | rfl | rfl | rfl | rfl <;> rfl) (by omega) (by unfold maxLen; omega) (by omega) (by simp; omega) (wr.heap.size + 3) (by simp) ?_; intro g' cap' w2 hown2 hg2 hor2 hlt2; have hb2 := Lib.hid (Box.grown hg2 (((hbx.out.alloc _).alloc _).alloc _) (fun k hk => by have := (World.ownsRow.lt hrow.out k hk).1; omega)); obtain ⟨n0, n1, k0, k1⟩ := Box.two hb2.out)
              have Hrow2 : Hid (w2.ownsRow (wo.heap.size + 1) 78 5 (.slice (some ⟨g', 0, none⟩) (q + 1) cap') (q + 1) (((fs.take (q + 1)).map (backF r)).flatMap fieldC)) := Lib.hid (by rw [← HF.out _ hid0]; exact hown2)
              have hne2 : wo.heap.size ≠ g' := by have := (World.ownsRow.lt hown2 g' rfl).1; omega
              have Hb3 : Hid (Below wo.heap.size wo w2) := Lib.hid ((((hbz.alloc (by omega) _).alloc (by simp; omega) _).alloc (by simp; omega) _).grown hg2 (by simp; omega) (fun k hk => by have := (World.ownsRow.lt hrow.out k hk).1; omega))
              have hz2 : wo.heap.size + 1 ≤ w2.heap.size := by have := hg2.size; simp at this; omega
              clear hown2 hg2 hor2 hnew
              go_roundw
              case rel => exact ⟨q + 1, _, by omega, by go_num, Lib.hid (ownsRow_setCell_other Hrow2.out (a := ⟨wo.heap.size, 1, none⟩) (by simp [Value.ownBlock]; omega) _), Lib.hid (hb2.out.set 1 _), Hb3.out.setCell (by simp) _, by simpa [World.setCell] using hz2⟩
              case measure => simp [intOf]; omega
          · have hge : (fs.length : Int) ≤ (q : Int) := by omega
            have hend : decide (q < fs.length) = false := decide_eq_false hqn
            obtain rfl : q = fs.length := by omega
            obtain ⟨af, cf, rfl⟩ := ownsRow_form hrow.out
            obtain ⟨am, cm, hvm⟩ := ownsRow_form hown.out.row
            have o1 := (hbz.cell (p := ⟨w.heap.size + 1 + 1, 0, none⟩) (by simp; omega)).trans o0
            have HO1 := Lib.hid (HO.out.below hbz hzw)
            have HX1 := Lib.hid (HX.out.below hbz (by omega))
            have HS1 := Lib.hid (HS.out.below hbz (by omega))
            have HL1 := Lib.hid (hl.trans (hbz.mono hl.size))
            have Hown1 := Lib.hid (hown.out.below hbz)
            have Hap : Hid (∀ k, (Value.slice af fs.length cf).ownBlock = some k → wo.heap.size < k) := Lib.hid fun k hk => by have := (World.ownsRow.lt hrow.out k hk).1; omega
            have Hms : Hid (∀ i (hi : i < ms.length) k, ms[i].2.1.ownBlock = some k → k < wo.heap.size) := Lib.hid fun i hi k hk => (World.ownsRow.lt (hown.out.fields i hi) k hk).2
            have Hvm : Hid (∀ k, vm.ownBlock = some k → w.heap.size + 1 + 1 + 1 ≤ k ∧ k < wo.heap.size) := Lib.hid fun k hk => World.ownsRow.lt hown.out.row k hk
            have Hu : Hid (FOwn wr (w.heap.size + 1 + 1 + 1) 78 (id, .slice af fs.length cf, fs.map (backF r))) := Lib.hid (by
              have h := ownsRow_base hrow.out (show w.heap.size + 1 + 1 + 1 ≤ wo.heap.size + 1 by omega)
              rw [List.take_length] at h
              unfold FOwn
              simpa using h)
            have hnew : (wr.alloc (.cells #[.int .i64 id, .slice af fs.length cf] 76)).heap[wr.heap.size]? = some (.cells #[.int .i64 id, .slice af fs.length cf] 76 (0, 0)) := heap_alloc_new _ _
            have hwz : w.heap.size + 1 + 1 < wr.heap.size := by omega
            have hml : ms.length ≤ 6 := by omega
            clear hvm
            go_wp2_with (at_builtin; refine wpList_append_lies _ (by rfl) (.tmp 75) (.tmp 77) 47 (by rfl) (w.heap.size + 1 + 1 + 1) 76 i0 _ 2 32 Try.underlying47 hi hz0 hz1 hz2 (by rfl) (by omega) vm _ _ (by rfl) (World.ownsRow.alloc Hown1.out.row _) ⟨wr.heap.size, 0, none⟩ 1 1 [.int .i64 id, .slice af fs.length cf] (by rfl) (by rfl) (fun j u hj => World.news_of_block hnew j u hj) (by intro u hu; simp at hu; rcases hu with rfl | rfl <;> rfl) (by omega) (by unfold maxLen; omega) (by omega) (by simp; omega) (wr.heap.size + 1) (by simp) ?_; intro g' cap' w2 hown2 hg2 hor2 hlt2; have hb2 := Lib.hid (Box.grown hg2 (HO1.out.alloc _) (fun k hk => by have := (Hvm.out k hk).1; omega)); obtain ⟨n0, n1⟩ := Box.one hb2.out)
            have Hpush := Lib.hid (OwnRaw.pushWith (Hown1.out.alloc _) (by simp; omega) (World.ownsRow.alloc Hu.out _) (fun i hi => (apart_of (Hms.out i hi) Hap.out).1) (fun i hi => (apart_of (Hms.out i hi) Hap.out).2) (apart_of (fun k hk => (Hvm.out k hk).2) Hap.out).2 hown2 hg2 (by
              rcases hor2 with h | h
              · left; rw [h]; rfl
              · right; rw [h]; simp [Value.ownBlock]))
            have Hl2 : Hid (Below w.heap.size w w2) := Lib.hid ((HL1.out.alloc (by omega) _).grown hg2 (by simp; omega) (fun k hk => by have := (Hvm.out k hk).1; omega))
            have HS2 := Lib.hid (Box.grown hg2 (HS1.out.alloc _) (fun k hk => by have := (Hvm.out k hk).1; omega))
            have HX2 := Lib.hid (Box.grown hg2 (HX1.out.alloc _) (fun k hk => by have := (Hvm.out k hk).1; omega))
            have hO := Hpush.out.out (k := w.heap.size + 1 + 1) (by omega)
            have HF := Lib.hid (Hpush.out.other (p := ⟨w.heap.size + 1 + 1, 0, none⟩) (.slice (some ⟨g', 0, none⟩) (ms.length + 1) cap') hO.1 hO.2)
            have Hpl := Lib.hid (Hnext.out (ms ++ [(id, .slice af fs.length cf, fs.map (backF r))]) (by unfold plain at *; rw [List.map_append, hplain.out]; rfl))
            rw [hmsl] at HF
            clear hown2 hg2 hor2 hnew hO
            go_roundw
            case rel => exact ⟨k + 1, _, _, by omega, by go_num, Hpl, HF, Lib.hid (HS2.out.other (by simp; omega) _), Lib.hid (HX2.out.other (by simp) _), Lib.hid (hb2.out.set 0 _), Hl2.out.setCell (by simp; omega) _⟩
            case measure => simp [intOf]; omega
      · have hge : (r.length : Int) ≤ (k : Int) := by omega
        have hend : decide (k < r.length) = false := decide_eq_false hlt
        obtain rfl : k = r.length := by omega
        have hx5 := HX.out.set 0 vm
        have y0 : (wr.setCell ⟨w.heap.size + 1, 0, none⟩ vm).cell? ⟨w.heap.size + 1, 0, none⟩ = some vm := (hx5.2 0 (by simp)).1
        have hO := hown.out.out (k := w.heap.size + 1) (by omega)
        have hown2 := hown.out.other (p := ⟨w.heap.size + 1, 0, none⟩) vm hO.1 hO.2
        have Hown2 := Lib.hid hown2
        clear hown2 hO
        obtain ⟨av, capv, hvm⟩ := hown.out.msgsAt.len
        subst hvm
        go_wp2_with fail
        refine bodyPost_ret (v := .agg #[.slice av (plain ms).length capv]) (by simp [results, Try.results23, go_sem, y0]) rfl ?_
        refine ⟨_, rfl, ?_, hl.setCell (by simp) _⟩
        have hp : plain ms = r.map (backM r) := by rw [hplain.out, List.take_length]
        rw [He.out, ← hp]
        exact Hown2.out.rawAt.keep (fun _ _ _ => rfl) fun b hb => ⟨by omega, hb.2⟩
end Go.Proofs.Ythjnpipincpkgaa.Num
