/-
  The walk of the program's Shattered; only new memory is written.
-/
import Derived.Test.YteplmjlllnbiiaaPieceI
namespace Go.Proofs.Yteplmjlllnbiiaa.Num
open Go.RowKit Go.Proofs
set_option linter.unusedVariables false
set_option linter.unusedSimpArgs false
attribute [local go_sem] Region.wanted yielded

theorem OwnE.offBox {w : World} {B : Nat} {T : TypeId} {v : Value} {l : List Ev} (h : OwnE w B T v l) {p : Addr} (hp : ∀ q, v.ownBlock = some q → q ≠ p.block) (u : Value) : OwnE (w.setCell p u) B T v l := by
  refine h.kept (row := some p.block) ⟨rfl, rfl, rfl, by simp [World.setCell], fun k _ hk => Below.heap_setCell _ _ _ _ (fun e => hk (by rw [e]))⟩ ?_
  cases hv : v.ownBlock with
  | none => exact .inl rfl
  | some k => exact .inr fun e => hp k hv (Option.some.inj e)
theorem shatter_pieces {N : Nat} (l : List Ev) (k : Nat) (hk : k < l.length) (h4 : l[k].kind = 4) : (l.take (k + 1)).flatMap (shatterOne N) = (l.take k).flatMap (shatterOne N) ++ (pieces N l[k].text).map fun s => { l[k] with text := s } := by rw [flat_take l k hk, shatter_part h4]
theorem map_take_next {e : Ev} (pcs : List ByteArray) (j : Nat) (hj : j < pcs.length) : (pcs.take (j + 1)).map (fun s => ({ e with text := s } : Ev)) = (pcs.take j).map (fun s => ({ e with text := s } : Ev)) ++ [{ e with text := pcs[j] }] := by
  rw [List.take_succ_eq_append_getElem hj, List.map_append]; rfl
set_option maxHeartbeats 8000000 in
set_option maxRecDepth 100000 in
theorem implShattered_any (v : Value) (l : List Ev) (n : Int) (w : World) (h : EvsAt w (· < w.heap.size) v l) (hl : SmallE l) (hn : -9223372036854775808 ≤ n ∧ n ≤ 9223372036854775807) (hv : v = .slice none 0 0 ∨ ∃ ad m c, v = .slice (some ad) m c) :
    Calls Try.prog 14 #[v, .int .i64 n] w fun e w' => ∃ a cap, e = .returned (.slice a (shatteredE l n).length cap) ∧ OwnE w' w.heap.size 31 (.slice a (shatteredE l n).length cap) (shatteredE l n) ∧ Below w.heap.size w w' := by
  obtain ⟨i0, hi, hz0, hz1, hzb⟩ := info_parts info_event
  have HCl := Lib.hid (clone_any v l w h hl.1)
  obtain ⟨a, cap, rfl⟩ := h.len
  have H := Lib.hid h
  have hl1 := hl.1
  have Hl := Lib.hid hl.2
  have Hn := Lib.hid hn
  have hn' := hn
  clear h hl hv hn
  by_cases hn1 : n < 1
  · have Hs := Lib.hid (shattered_zero (l := l) hn1)
    go_enter Try.func14, Try.ntmps14
    go_wp2_with fail
    refine HCl.out.mono ?_
    rintro e w1 ⟨⟨a1, c1, rfl, ho1⟩, hb1⟩
    have HO := Lib.hid ho1
    clear ho1
    go_wp2_with fail
    go_ret
    exact ⟨a1, c1, by rw [Hs.out]; rfl, by rw [Hs.out]; exact HO.out, hb1⟩
  · obtain ⟨N, rfl⟩ := Int.eq_ofNat_of_zero_le (show 0 ≤ n by omega)
    have hN : 0 < N := by omega
    have hd1 : decide ((N : Int) < 1) = false := decide_eq_false hn1
    have hd2 : decide (N < 1) = false := decide_eq_false (by omega)
    have hN63 : (N : Int) ≤ 9223372036854775807 := hn'.2
    have Hs := Lib.hid (shattered_pos (l := l) hN)
    have Htot : Hid (∀ k, k ≤ l.length → ((l.take k).flatMap (shatterOne N)).length ≤ 2097152) := Lib.hid fun k hk => by
      have h1 := shattered_len (l.take k) (N : Int)
      rw [shattered_pos hN] at h1
      have h2 := texts_take l k
      have := Hl.out
      rw [List.length_take] at h1
      have := Nat.min_le_left k l.length
      omega
    have HN := Lib.hid hN
    clear hn1 hN HCl
    go_enter Try.func14, Try.ntmps14
    go_wp2_with fail
    go_loopg [5, 16] l.length (fun gm s5 s16 wr => ∃ (k : Nat) (out : List Ev) (a5 : Option Addr) (n5 c5 : Nat), k + gm = l.length ∧ s16 = .int .i64 k ∧ s5 = .slice a5 n5 c5 ∧ Hid (out = (l.take k).flatMap (shatterOne N)) ∧ Hid (out.length = n5) ∧ n5 ≤ 2097152 ∧ Hid (OwnE wr w.heap.size 31 (.slice a5 n5 c5) out) ∧ Below w.heap.size w wr)
    case atStart => exact ⟨0, [], none, 0, 0, by omega, rfl, rfl, Lib.hid rfl, Lib.hid rfl, by omega, Lib.hid (OwnE.nil _ _ _), Below.refl _ _⟩
    case round =>
      obtain ⟨k, out, a5, n5, c5, hkg, rfl, rfl, Hout, Hlen, hn5, HO, hbr⟩ := hrel
      have hzr := hbr.size
      by_cases hlt : k < l.length
      · have hlti : (k : Int) < (l.length : Int) := by omega
        obtain ⟨b, o, rfl, hbC, c0, c1, c2, c3, c4, c5', c6⟩ := H.out.cellsAt k hlt
        rw [← hbr.cell (p := ⟨b, _, none⟩) hbC] at c0 c1 c2 c3 c4 c5' c6
        have Hother : Hid (l[k].kind ≠ 4 → (l.take (k + 1)).flatMap (shatterOne N) = out ++ [l[k]]) := Lib.hid fun h => by rw [flat_take l k hlt, shatter_other h, ← Hout.out]
        have Hpart : Hid (l[k].kind = 4 → (l.take (k + 1)).flatMap (shatterOne N) = out ++ (pieces N l[k].text).map fun s => { l[k] with text := s }) := Lib.hid fun h => by rw [shatter_pieces l k hlt h, ← Hout.out]
        have Hmax := Lib.hid (Htot.out (k + 1) (by omega))
        have Htx : Hid (l[k].text.size ≤ 1048576) := Lib.hid (by have := Hl.out; have := textsLen_mem (List.getElem_mem hlt); omega)
        obtain ⟨Q, hQ⟩ : ∃ Q, (l[k].kind == 4) = Q := ⟨_, rfl⟩
        have HC := Lib.hid (fun w => isPart_any l[k] Q w hQ)
        have HQ := Lib.hid hQ
        clear hQ Hout
        generalize l[k] = e at c0 c1 c2 c3 c4 c5' c6 Hother Hpart Htx HC HQ
        obtain ⟨K, F, Bt, L, Tx, C, P⟩ := e
        simp only at c0 c1 c2 c3 c4 c5' c6
        have hx := Box.fresh wr #[.int .i64 K, .int .i64 F, .int .u64 Bt, .int .i64 L, .string Tx, .int .i64 C, .int .i64 P] 31
        have hbx : Below w.heap.size w (wr.alloc (.cells #[.int .i64 K, .int .i64 F, .int .u64 Bt, .int .i64 L, .string Tx, .int .i64 C, .int .i64 P] 31)) := hbr.alloc hzr _
        have HOx := Lib.hid (HO.out.alloc (.cells #[.int .i64 K, .int .i64 F, .int .u64 Bt, .int .i64 L, .string Tx, .int .i64 C, .int .i64 P] 31))
        have Hgl : Hid (∀ q, (Value.slice a5 n5 c5).ownBlock = some q → q < wr.heap.size) := Lib.hid fun q hq => (HO.out.lt q hq).2
        obtain ⟨wo, rfl⟩ : ∃ wo : World, wo = wr := ⟨_, rfl⟩
        go_wp2_with fail
        refine (HC.out _).mono ?_
        rintro e w2 ⟨rfl, hb2⟩
        have hx2 := hx.below hb2 hx.lt
        have hb3 := hbx.trans (hb2.mono hbx.size)
        have hz3 := hb3.size
        have HO2 := Lib.hid (HOx.out.below hb2 (Nat.le_refl _))
        have hge := hx2.lt
        have hgw : w.heap.size ≤ wo.heap.size := hzr
        generalize wo.heap.size = ge at hx2 hge hgw Hgl ⊢
        clear hb2 hbx hx c0 c1 c2 c3 c4 c5' c6 HOx HO hbr hzr
        cases Q with
        | false =>
          have hk : K ≠ 4 := by have := HQ.out; simpa using this
          obtain ⟨⟨e0, e1, e2, e3, e4, e5, e6⟩, _⟩ := Box.seven hx2
          have Hone := Lib.hid (Hother.out hk)
          have HOn : Hid (w2.ownsRow w.heap.size 31 7 (.slice a5 n5 c5) n5 (out.flatMap evC)) := Lib.hid (by have h := HO2.out; unfold OwnE at h; rw [Hlen.out] at h; exact h)
          have hm1 : n5 + 1 ≤ 2097152 := by have h := Hmax.out; rw [Hone.out, List.length_append, Hlen.out] at h; exact h
          have Hol2 : Hid ((out ++ [(⟨K, F, Bt, L, Tx, C, P⟩ : Ev)]).length = n5 + 1) := Lib.hid (by rw [List.length_append, Hlen.out]; rfl)
          have Hnew := Lib.hid (heap_alloc_new w2 (.cells #[.int .i64 K, .int .i64 F, .int .u64 Bt, .int .i64 L, .string Tx, .int .i64 C, .int .i64 P] 31))
          have Happ : Hid (∀ (g2 cap2 : Nat) (w5 : World), w5.ownsRow w.heap.size 31 7 (.slice (some ⟨g2, 0, none⟩) (n5 + 1) cap2) (n5 + 1) (out.flatMap evC ++ evC ⟨K, F, Bt, L, Tx, C, P⟩) → OwnE w5 w.heap.size 31 (.slice (some ⟨g2, 0, none⟩) (n5 + 1) cap2) (out ++ [⟨K, F, Bt, L, Tx, C, P⟩])) := Lib.hid fun g2 cap2 w5 h => by
            unfold OwnE
            rw [Hol2.out, flat_snoc]; exact h
          generalize out ++ [(⟨K, F, Bt, L, Tx, C, P⟩ : Ev)] = out2 at Hone Hol2 Happ
          clear Hother Hpart Hmax hk
          go_wp2_with (at_builtin; refine wpList_append_lies _ (by rfl) (.tmp 23) (.tmp 25) 24 (by rfl) w.heap.size 31 i0 _ 7 64 Try.underlying24 hi hz0 hz1 hzb (by rfl) (by omega) (.slice a5 n5 c5) n5 _ (by rfl) (World.ownsRow.alloc HOn.out _) ⟨w2.heap.size, 0, none⟩ 1 1 (evC ⟨K, F, Bt, L, Tx, C, P⟩) (by rfl) (by rfl) (fun j u hj => World.news_of_block Hnew.out j u hj) (by intro u hu; simp [evC] at hu; rcases hu with rfl | rfl | rfl | rfl | rfl | rfl | rfl <;> rfl) (by omega) (by unfold maxLen; omega) (by omega) (by simp; omega) _ rfl ?_; intro g2 cap2 w5 hown2 hg2 hor2 hlt2)
          have ho2 := Lib.hid (Happ.out _ _ _ hown2)
          have hb25 := (hb3.alloc hz3 (.cells #[.int .i64 K, .int .i64 F, .int .u64 Bt, .int .i64 L, .string Tx, .int .i64 C, .int .i64 P] 31)).grown hg2 (by simp; omega) (fun q hq => (World.ownsRow.lt HOn.out q hq).1)
          clear hown2 hg2 hor2 Happ Hnew HOn HO2 hb3
          go_roundg (gk - 1)
          case measure => omega
          case rel => exact ⟨k + 1, out2, some ⟨g2, 0, none⟩, n5 + 1, cap2, by omega, by go_num, rfl, Lib.hid Hone.out.symm, Hol2, hm1, ho2, hb25⟩
        | true =>
          have hk : K = 4 := by have := HQ.out; simpa using this
          have Hone := Lib.hid (Hpart.out hk)
          clear Hother Hpart
          have HPc := Lib.hid (piecesOf_any Tx N w2 HN.out hN63 Htx.out)
          generalize pieces N Tx = pcs at Hone HPc
          obtain ⟨⟨e0, e1, e2, e3, e4, e5, e6⟩, _⟩ := Box.seven hx2
          go_wp2_with fail
          refine HPc.out.mono ?_
          rintro e w3 ⟨⟨ap, cp, rfl, hpr⟩, hb4⟩
          have hbw3 := hb3.trans (hb4.mono hz3)
          have HX3 := Lib.hid (hx2.below hb4 hx2.lt)
          have HO3 := Lib.hid (HO2.out.below hb4 (Nat.le_refl _))
          obtain ⟨gs, hap, hcs, hgs, hqs, hne⟩ : ∃ gs : Nat, (0 < pcs.length → ap = some ⟨gs, 0, none⟩) ∧ Hid (∀ j (h : j < pcs.length), w3.cell? ⟨gs, j, none⟩ = some (.string pcs[j])) ∧ gs < w3.heap.size ∧ Hid (∀ q, (Value.slice a5 n5 c5).ownBlock = some q → q ≠ ge ∧ q ≠ gs) ∧ Hid (0 < pcs.length → gs ≠ ge) := by
            by_cases h0 : 0 < pcs.length
            · obtain ⟨g, cap', hv, hB, hlt3, hrd⟩ := readOwn hpr h0
              injection hv with hv _ _
              refine ⟨g, fun _ => hv, Lib.hid fun j hj => ?_, hlt3, Lib.hid fun q hq => ?_, Lib.hid fun _ => by omega⟩
              · rcases hrd.2 with h | ⟨b', off', hp, _, hc⟩
                · omega
                · injection hp with hp; injection hp with e1 e2
                  subst e1 e2
                  have := hc j hj
                  rwa [Nat.zero_add] at this
              · have := Hgl.out q hq; omega
            · exact ⟨ge, fun h => absurd h h0, Lib.hid fun j hj => by omega, Nat.lt_of_lt_of_le hge hb4.size, Lib.hid fun q hq => by have := Hgl.out q hq; omega, Lib.hid fun h => absurd h h0⟩
          have hm1 : n5 + pcs.length ≤ 2097152 := by have h := Hmax.out; rw [Hone.out, List.length_append, Hlen.out, List.length_map] at h; exact h
          have hpl : pcs.length ≤ 2097152 := by omega
          obtain ⟨go, rfl⟩ : ∃ go, go = gk := ⟨_, rfl⟩
          clear hpr hb4 hb3 hx2 HO2 HPc Hmax e0 e1 e2 e3 e4 e5 e6 Hgl hk hge hz3
          go_wp2_with fail
          go_loopg [5, 32] pcs.length (fun gm s5 s32 wr => ∃ (j : Nat) (o2 : List Ev) (a5 : Option Addr) (n5 c5 : Nat) (tx : ByteArray), j + gm = pcs.length ∧ s32 = .int .i64 j ∧ s5 = .slice a5 n5 c5 ∧ Hid (o2 = out ++ (pcs.take j).map fun s => (⟨K, F, Bt, L, s, C, P⟩ : Ev)) ∧ Hid (o2.length = n5) ∧ n5 + gm ≤ 2097152 ∧ Hid (OwnE wr w.heap.size 31 (.slice a5 n5 c5) o2) ∧ Hid (Box wr ge [.int .i64 K, .int .i64 F, .int .u64 Bt, .int .i64 L, .string tx, .int .i64 C, .int .i64 P]) ∧ Hid (∀ j (h : j < pcs.length), wr.cell? ⟨gs, j, none⟩ = some (.string pcs[j])) ∧ Hid (∀ q, (Value.slice a5 n5 c5).ownBlock = some q → q ≠ ge ∧ q ≠ gs) ∧ gs < wr.heap.size ∧ Below w.heap.size w wr)
          case atStart => exact ⟨0, out, a5, n5, c5, Tx, by omega, rfl, rfl, Lib.hid (by simp), Hlen, hm1, HO3, HX3, hcs, hqs, hgs, hbw3⟩
          case round =>
            clear HX3 HO3 hcs hgs hqs hbw3 Hlen hm1 hn5
            obtain ⟨j, o2, a6, n6, c6, tx, hjg, rfl, rfl, Ho2, Hlen, hn6, HO, HX, hcs, hqs, hgs, hbr⟩ := hrel
            have hzr := hbr.size
            by_cases hjt : j < pcs.length
            · have hjti : (j : Int) < (pcs.length : Int) := by omega
              have Hjg := Lib.hid hjg
              clear hjg
              obtain rfl := hap (by omega)
              have hgk1 : 0 < gk := by have := Hjg.out; omega
              have hd := hcs.out j hjt
              have hne1 : ¬ gs = ge := hne.out (by omega)
              have Hnext : Hid (out ++ (pcs.take (j + 1)).map (fun s => (⟨K, F, Bt, L, s, C, P⟩ : Ev)) = o2 ++ [⟨K, F, Bt, L, pcs[j], C, P⟩]) := Lib.hid (by rw [Ho2.out, map_take_next (e := ⟨K, F, Bt, L, tx, C, P⟩) pcs j hjt]; simp)
              obtain ⟨⟨e0, e1, e2, e3, e4, e5, e6⟩, f0, f1, f2, f3, f4, f5, f6⟩ := HX.out.seven
              have hgl := HX.out.lt
              generalize pcs[j] = pc at hd Hnext
              have HX2 : Hid (Box (wr.setCell ⟨ge, 4, none⟩ (.string pc)) ge [.int .i64 K, .int .i64 F, .int .u64 Bt, .int .i64 L, .string pc, .int .i64 C, .int .i64 P]) := Lib.hid (HX.out.set 4 (.string pc))
              have HO2 : Hid (OwnE (wr.setCell ⟨ge, 4, none⟩ (.string pc)) w.heap.size 31 (.slice a6 n6 c6) o2) := Lib.hid (HO.out.offBox (fun q hq => (hqs.out q hq).1) _)
              have hcs2 : Hid (∀ j (h : j < pcs.length), (wr.setCell ⟨ge, 4, none⟩ (.string pc)).cell? ⟨gs, j, none⟩ = some (.string pcs[j])) := Lib.hid fun j h => by rw [World.cell?_setCell_other _ _ _ _ (by intro h; injection h with h1 _; exact hne1 h1.symm)]; exact hcs.out j h
              have hb2 := hbr.setCell (p := ⟨ge, 4, none⟩) hgw (.string pc)
              have hgs2 : gs < (wr.setCell ⟨ge, 4, none⟩ (.string pc)).heap.size := by simpa [World.setCell] using hgs
              go_upto_region 13 with fail
              generalize wr.setCell ⟨ge, 4, none⟩ (.string pc) = wq at HX2 HO2 hcs2 hb2 hgs2 ⊢
              clear HX HO hcs hbr hzr hgs e0 e1 e2 e3 e4 e5 e6 f0 f1 f2 f3 f4 f5 f6 hd hgl Ho2
              obtain ⟨⟨e0, e1, e2, e3, e4, e5, e6⟩, _⟩ := HX2.out.seven
              have hge := HX2.out.lt
              have hz2 := hb2.size
              have HOn : Hid (wq.ownsRow w.heap.size 31 7 (.slice a6 n6 c6) n6 (o2.flatMap evC)) := Lib.hid (by have h := HO2.out; unfold OwnE at h; rw [Hlen.out] at h; exact h)
              have Hol2 : Hid ((o2 ++ [(⟨K, F, Bt, L, pc, C, P⟩ : Ev)]).length = n6 + 1) := Lib.hid (by rw [List.length_append, Hlen.out]; rfl)
              have Hnew := Lib.hid (heap_alloc_new wq (.cells #[.int .i64 K, .int .i64 F, .int .u64 Bt, .int .i64 L, .string pc, .int .i64 C, .int .i64 P] 31))
              have Happ : Hid (∀ (g2 cap2 : Nat) (w5 : World), w5.ownsRow w.heap.size 31 7 (.slice (some ⟨g2, 0, none⟩) (n6 + 1) cap2) (n6 + 1) (o2.flatMap evC ++ evC ⟨K, F, Bt, L, pc, C, P⟩) → OwnE w5 w.heap.size 31 (.slice (some ⟨g2, 0, none⟩) (n6 + 1) cap2) (o2 ++ [⟨K, F, Bt, L, pc, C, P⟩])) := Lib.hid fun g2 cap2 w5 h => by
                unfold OwnE
                rw [Hol2.out, flat_snoc]; exact h
              generalize o2 ++ [(⟨K, F, Bt, L, pc, C, P⟩ : Ev)] = o3 at Hnext Hol2 Happ
              go_wp2_with (at_builtin; refine wpList_append_lies _ (by rfl) (.tmp 38) (.tmp 40) 24 (by rfl) w.heap.size 31 i0 _ 7 64 Try.underlying24 hi hz0 hz1 hzb (by rfl) (by omega) (.slice a6 n6 c6) n6 _ (by rfl) (World.ownsRow.alloc HOn.out _) ⟨wq.heap.size, 0, none⟩ 1 1 (evC ⟨K, F, Bt, L, pc, C, P⟩) (by rfl) (by rfl) (fun j u hj => World.news_of_block Hnew.out j u hj) (by intro u hu; simp [evC] at hu; rcases hu with rfl | rfl | rfl | rfl | rfl | rfl | rfl <;> rfl) (by omega) (by unfold maxLen; omega) (by omega) (by simp; omega) _ rfl ?_; intro g2 cap2 w5 hown2 hg2 hor2 hlt2)
              have ho3 := Lib.hid (Happ.out _ _ _ hown2)
              have hb25 := (hb2.alloc hz2 (.cells #[.int .i64 K, .int .i64 F, .int .u64 Bt, .int .i64 L, .string pc, .int .i64 C, .int .i64 P] 31)).grown hg2 (by simp; omega) (fun q hq => (World.ownsRow.lt HOn.out q hq).1)
              have hszq : (wq.alloc (.cells #[.int .i64 K, .int .i64 F, .int .u64 Bt, .int .i64 L, .string pc, .int .i64 C, .int .i64 P] 31)).heap.size = wq.heap.size + 1 := by simp
              have hXa := HX2.out.alloc (.cells #[.int .i64 K, .int .i64 F, .int .u64 Bt, .int .i64 L, .string pc, .int .i64 C, .int .i64 P] 31)
              have hX3 : Hid (Box w5 ge [.int .i64 K, .int .i64 F, .int .u64 Bt, .int .i64 L, .string pc, .int .i64 C, .int .i64 P]) := Lib.hid (by
                have hb := hg2.block ge hXa.1 (fun e => (hqs.out ge e.symm).1 rfl)
                exact ⟨Nat.lt_of_lt_of_le hXa.1 hg2.size, fun j hj => ⟨(World.cell?_of_block (a := ⟨ge, j, none⟩) hb).trans (hXa.2 j hj).1, (World.frozen?_of_block (a := ⟨ge, j, none⟩) hb).trans (hXa.2 j hj).2⟩⟩)
              have hcs3 : Hid (∀ j (h : j < pcs.length), w5.cell? ⟨gs, j, none⟩ = some (.string pcs[j])) := Lib.hid fun j h => by
                have hb := hg2.block gs (Nat.lt_of_lt_of_le hgs2 (by simp)) (fun e => (hqs.out gs e.symm).2 rfl)
                rw [World.cell?_of_block (a := ⟨gs, j, none⟩) hb]
                exact (((Below.refl wq.heap.size wq).alloc (Nat.le_refl _) _).cell (p := ⟨gs, j, none⟩) hgs2).trans (hcs2.out j h)
              have hqs3 : Hid (∀ q, (Value.slice (some ⟨g2, 0, none⟩) (n6 + 1) cap2).ownBlock = some q → q ≠ ge ∧ q ≠ gs) := Lib.hid fun q hq => by
                obtain rfl : g2 = q := Option.some.inj hq
                rcases hor2 with h | h
                · exact hqs.out g2 h
                · have h2 : wq.heap.size < g2 := by rw [h]; simp
                  omega
              have hgs3 : gs < w5.heap.size := Nat.lt_of_lt_of_le hgs2 (Nat.le_trans (by simp) hg2.size)
              clear hown2 hg2 hor2 Happ Hnew HOn HO2 hb2 HX2 hcs2 hXa hszq
              go_roundg (gk - 1)
              case measure => omega
              case rel => exact ⟨j + 1, o3, some ⟨g2, 0, none⟩, n6 + 1, cap2, pc, by have := Hjg.out; omega, by go_num, rfl, Lib.hid Hnext.out.symm, Hol2, by omega, ho3, hX3, hcs3, hqs3, hgs3, hb25⟩
            · have hge : (pcs.length : Int) ≤ (j : Int) := by omega
              have hend : decide (j < pcs.length) = false := decide_eq_false hjt
              have Hfin : Hid (o2 = (l.take (k + 1)).flatMap (shatterOne N)) := Lib.hid (by rw [Hone.out, Ho2.out, show j = pcs.length by omega, List.take_length])
              have hn6' : n6 ≤ 2097152 := by omega
              clear HX hcs hqs hgs Ho2
              go_wp2_with fail
              go_roundg (go - 1)
              case measure => omega
              case rel => exact ⟨k + 1, o2, a6, n6, c6, by omega, by go_num, rfl, Hfin, Hlen, hn6', HO, hbr⟩
      · have hge : (l.length : Int) ≤ (k : Int) := by omega
        have hend : decide (k < l.length) = false := decide_eq_false hlt
        have Hfin : Hid (shatteredE l N = out) := Lib.hid (by rw [Hs.out, Hout.out, show k = l.length by omega, List.take_length])
        clear Hout
        go_wp2_with fail
        go_ret
        exact ⟨a5, c5, by rw [Hfin.out, Hlen.out]; rfl, by rw [Hfin.out, Hlen.out]; exact HO.out, hbr⟩
end Go.Proofs.Yteplmjlllnbiiaa.Num
