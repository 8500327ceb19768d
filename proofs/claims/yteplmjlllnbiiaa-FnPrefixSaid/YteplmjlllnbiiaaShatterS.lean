/-
  The walk of the reference's Shattered; only new memory is written.
-/
import Derived.Test.YteplmjlllnbiiaaPartS
import Derived.Test.YteplmjlllnbiiaaAppend
import Derived.Deep.LoopGhost
namespace Go.Proofs.Yteplmjlllnbiiaa.Num
open Go.RowKit Go.Proofs
set_option linter.unusedVariables false
set_option linter.unusedSimpArgs false
attribute [local go_sem] Region.wanted yielded

theorem addNone (b o n : Nat) : (⟨b, o, none⟩ : Addr).add n = ⟨b, o + n, none⟩ := by
  unfold Addr.add
  split
  · next h => subst h; rfl
  · rfl
/-- The cells of a list that is read are those that its append takes. -/
theorem EvsAt.news {w : World} {S : Nat → Prop} {a : Option Addr} {n cap : Nat} {l : List Ev} (h : EvsAt w S (.slice a n cap) l) : ∀ ad, a = some ad → ∀ j u, (l.flatMap evC)[j]? = some u → w.cell? (ad.add j) = some u := by
  intro ad ha j u hj
  subst ha
  have hjl : j < (l.flatMap evC).length := (List.getElem?_eq_some_iff.1 hj).1
  rw [flat_len (sz := 7) (fun _ => rfl)] at hjl
  have hq : j = j / 7 * 7 + j % 7 := by omega
  obtain ⟨b, o, e1, _, c0, c1, c2, c3, c4, c5, c6⟩ := h.cellsAt (j / 7) (by omega)
  obtain rfl := Option.some.inj e1
  rw [hq, flat_get (sz := 7) (fun _ => rfl) l (j / 7) (by omega) (j % 7) (by omega)] at hj
  rw [addNone]
  have h7 : j % 7 < 7 := by omega
  rw [hq, ← Nat.add_assoc]
  generalize j % 7 = r at h7 hj ⊢
  match r, h7 with
  | 0, _ => exact c0.trans hj
  | 1, _ => exact c1.trans hj
  | 2, _ => exact c2.trans hj
  | 3, _ => exact c3.trans hj
  | 4, _ => exact c4.trans hj
  | 5, _ => exact c5.trans hj
  | 6, _ => exact c6.trans hj
theorem evs_len (l : List Ev) : (l.flatMap evC).length = l.length * 7 := flat_len (sz := 7) (fun _ => rfl) l
def strLenV : Value → Nat
  | .string s => s.size
  | _ => 0
theorem evC_one {l : List Ev} : ∀ u ∈ l.flatMap evC, u.oneCell' = true := by
  intro u hu
  obtain ⟨e, _, he⟩ := List.mem_flatMap.1 hu
  simp [evC] at he
  rcases he with rfl | rfl | rfl | rfl | rfl | rfl | rfl <;> rfl
set_option maxHeartbeats 8000000 in
set_option maxRecDepth 100000 in
theorem specShattered_any (v : Value) (l : List Ev) (n : Int) (w : World) (h : EvsAt w (· < w.heap.size) v l) (hl : SmallE l) (hn : -9223372036854775808 ≤ n ∧ n ≤ 9223372036854775807) (hv : v = .slice none 0 0 ∨ ∃ ad m c, v = .slice (some ad) m c) :
    Calls Try.prog 16 #[v, .int .i64 n] w fun e w' => ∃ g cap, e = .returned (.slice (some ⟨g, 0, none⟩) (shatteredE l n).length cap) ∧ OwnE w' w.heap.size 31 (.slice (some ⟨g, 0, none⟩) (shatteredE l n).length cap) (shatteredE l n) ∧ Below w.heap.size w w' := by
  obtain ⟨i0, hi, hz0, hz1, hz2⟩ := info_parts info_event
  obtain ⟨a, cap, rfl⟩ := h.len
  have H := Lib.hid h
  have hl1 := hl.1
  have Hl := Lib.hid hl.2
  have Hn := Lib.hid hn
  have hn' := hn
  have Hv : Hid (a = none → l.length = 0 ∧ cap = 0) := Lib.hid fun e => by
    rcases hv with h | ⟨ad, m, c, h⟩
    · injection h with h1 h2 h3; exact ⟨h2, h3⟩
    · rw [e] at h; injection h with h1; cases h1
  clear h hl hv hn
  have HO0 := Lib.hid (OwnE.start w w.heap.size 31 (Nat.le_refl _))
  have hb0 : Below w.heap.size w (w.alloc (.cells #[] 31)) := (Below.refl _ _).alloc (Nat.le_refl _) _
  have hz0' : w.heap.size < (w.alloc (.cells #[] 31)).heap.size := by simp
  by_cases hn1 : n < 1
  · have Hs := Lib.hid (shattered_zero (l := l) hn1)
    go_enter Try.func16, Try.ntmps16
    go_upto_region 3 with fail
    generalize w.alloc (.cells #[] 31) = w1 at HO0 hb0 hz0' ⊢
    have H1 := Lib.hid (H.out.below hb0 fun _ h => h)
    go_wp2_with (at_builtin; refine wpList_append_onto _ (by rfl) (.tmp 14) (.tmp 15) 24 (by rfl) w.heap.size 31 i0 _ 7 64 Try.underlying24 hi hz0 hz1 hz2 (by rfl) (by omega) w.heap.size 0 0 _ (by rfl) HO0.out a l.length cap (by rfl) Hv.out (l.flatMap evC) (evs_len l) (EvsAt.news H1.out) evC_one (by unfold maxLen; omega) (by omega) (by omega) _ rfl ?_; intro g2 cap2 w2 hown2 hg2 hor2 hlt2)
    have hb2 := hb0.grown hg2 (by omega) (fun q hq => by cases hq; omega)
    have HO2 : Hid (OwnE w2 w.heap.size 31 (.slice (some ⟨g2, 0, none⟩) l.length cap2) l) := Lib.hid (by
      unfold OwnE
      have h := hown2
      simp only [Nat.zero_add, List.flatMap_nil, List.nil_append] at h
      exact h)
    clear hown2 hg2 hor2
    go_wp2_with fail
    go_ret
    exact ⟨g2, cap2, by rw [Hs.out]; simp, by rw [Hs.out]; exact HO2.out, hb2⟩
  · obtain ⟨N, rfl⟩ := Int.eq_ofNat_of_zero_le (show 0 ≤ n by omega)
    have hN : 0 < N := by omega
    have hd1 : decide ((N : Int) < 1) = false := decide_eq_false hn1
    have hd2 : decide (N < 1) = false := decide_eq_false (by omega)
    have hN63 : (N : Int) ≤ 9223372036854775807 := hn'.2
    have Hs := Lib.hid (shattered_pos (l := l) hN)
    have Htot : Hid (∀ k, k ≤ l.length → ((l.take k).flatMap (shatterOne N)).length ≤ 2097152) := Lib.hid fun k hk => by
      have h1 := shattered_len (l.take k) (N : Int)
      rw [shattered_pos hN] at h1
      have h2 := texts_take l k
      have := Hl.out
      rw [List.length_take] at h1
      have := Nat.min_le_left k l.length
      omega
    have HN := Lib.hid hN
    clear hn1 hN
    go_enter Try.func16, Try.ntmps16
    go_upto_region 5 with fail
    generalize w.alloc (.cells #[] 31) = w1 at HO0 hb0 hz0' ⊢
    go_loopw [5, 6] (fun o i wr => ∃ (k n g cp : Nat), k ≤ l.length ∧ i = .int .i64 k ∧ n ≤ 2097152 ∧ o = .slice (some ⟨g, 0, none⟩) n cp ∧ Hid (((l.take k).flatMap (shatterOne N)).length = n) ∧ Hid (OwnE wr w.heap.size 31 (.slice (some ⟨g, 0, none⟩) n cp) ((l.take k).flatMap (shatterOne N))) ∧ Below w.heap.size w wr) (fun _ i _ => l.length - (intOf i).toNat)
    case atStart => exact ⟨0, 0, _, _, by omega, rfl, by omega, rfl, Lib.hid rfl, HO0, hb0⟩
    case round =>
      clear HO0 hb0 hz0'
      obtain ⟨k, n, g, cp, hk, rfl, hn2, rfl, hlen, hown, hbr⟩ := hrel
      have hzr := hbr.size
      by_cases hlt : k < l.length
      · have hlti : (k : Int) < (l.length : Int) := by omega
        obtain ⟨b, o, rfl, hbC, c0, c1, c2, c3, c4, c5, c6⟩ := H.out.cellsAt k hlt
        rw [← hbr.cell (p := ⟨b, _, none⟩) hbC] at c0 c1 c2 c3 c4 c5 c6
        have Hnext := Lib.hid (flat_take (n := N) l k hlt)
        have Hmax := Lib.hid (Htot.out (k + 1) (by omega))
        have Htx : Hid (l[k].text.size ≤ 1048576) := Lib.hid (by have := Hl.out; have := textsLen_mem (List.getElem_mem hlt); omega)
        generalize l[k] = e at c0 c1 c2 c3 c4 c5 c6 Hnext Htx
        generalize (l.take k).flatMap (shatterOne N) = out at hlen hown Hnext
        obtain ⟨K, F, Bt, L, Tx, C, P⟩ := e
        simp only at c0 c1 c2 c3 c4 c5 c6
        have Hlen := Lib.hid hlen.out
        have Hrow0 := Lib.hid hown.out
        have hgl := (hown.out.lt g rfl).2
        clear hlen hown
        have hx1 := Box.fresh wr #[.int .i64 K, .int .i64 F, .int .u64 Bt, .int .i64 L, .string Tx, .int .i64 C, .int .i64 P] 31
        have hb1 : Below w.heap.size w (wr.alloc (.cells #[.int .i64 K, .int .i64 F, .int .u64 Bt, .int .i64 L, .string Tx, .int .i64 C, .int .i64 P] 31)) := hbr.alloc hzr _
        have Hr1 := Lib.hid (Hrow0.out.alloc (.cells #[.int .i64 K, .int .i64 F, .int .u64 Bt, .int .i64 L, .string Tx, .int .i64 C, .int .i64 P] 31))
        have hzx : (wr.alloc (.cells #[.int .i64 K, .int .i64 F, .int .u64 Bt, .int .i64 L, .string Tx, .int .i64 C, .int .i64 P] 31)).heap.size = wr.heap.size + 1 := by simp
        go_upto_region 8 with fail
        generalize wr.alloc (.cells #[.int .i64 K, .int .i64 F, .int .u64 Bt, .int .i64 L, .string Tx, .int .i64 C, .int .i64 P] 31) = wq at hx1 hb1 Hr1 hzx ⊢
        have hge : wr.heap.size < wq.heap.size := by omega
        have hzq : w.heap.size ≤ wq.heap.size := hb1.size
        have hgl2 : g < wq.heap.size := by omega
        have hne : ¬ g = wr.heap.size := by omega
        have hne2 : ¬ wr.heap.size = g := by omega
        have hgw : w.heap.size ≤ wr.heap.size := hzr
        clear hzx
        generalize wr.heap.size = ge at hx1 hge hne hne2 hgw ⊢
        clear Hrow0 hgl c0 c1 c2 c3 c4 c5 c6 hbr hbC hzr
        obtain ⟨⟨e0, e1, e2, e3, e4, e5, e6⟩, _⟩ := Box.seven hx1
        have HX1 := Lib.hid hx1
        have HrN : Hid (wq.ownsRow w.heap.size 31 7 (.slice (some ⟨g, 0, none⟩) n cp) n (out.flatMap evC)) := Lib.hid (by have h := Hr1.out; unfold OwnE at h; rw [Hlen.out] at h; exact h)
        clear hx1
        by_cases hK : K = 4
        · have kK : (K == 4) = true := by rw [hK]; rfl
          have Hone : Hid ((l.take (k + 1)).flatMap (shatterOne N) = out ++ (pieces N Tx).map fun s => ({ kind := K, field := F, bits := Bt, len := L, text := s, code := C, pos := P } : Ev)) := Lib.hid (by rw [Hnext.out, shatter_part hK])
          clear hK
          obtain ⟨wo, rfl⟩ : ∃ wo : World, wo = wr := ⟨_, rfl⟩
          go_upto_region 11 with fail
          go_loopw [5, 8] (fun o s8 wr => ∃ (m g cp : Nat) (rest : ByteArray) (dn : List ByteArray), s8 = .string rest ∧ rest.size ≤ 1048576 ∧ m ≤ 2097152 ∧ o = .slice (some ⟨g, 0, none⟩) m cp ∧ Hid (g ≠ ge) ∧ Hid (pieces N Tx = dn ++ pieces N rest) ∧ Hid ((out ++ dn.map fun s => ({ kind := K, field := F, bits := Bt, len := L, text := s, code := C, pos := P } : Ev)).length = m) ∧ Hid (wr.ownsRow w.heap.size 31 7 (.slice (some ⟨g, 0, none⟩) m cp) m ((out ++ dn.map fun s => ({ kind := K, field := F, bits := Bt, len := L, text := s, code := C, pos := P } : Ev)).flatMap evC)) ∧ Hid (Box wr ge [.int .i64 K, .int .i64 F, .int .u64 Bt, .int .i64 L, .string Tx, .int .i64 C, .int .i64 P]) ∧ Below w.heap.size w wr) (fun _ s8 _ => strLenV s8)
          case atStart => exact ⟨n, g, cp, Tx, [], rfl, Htx.out, hn2, rfl, Lib.hid hne, Lib.hid rfl, Lib.hid (by simpa using Hlen.out), Lib.hid (by simpa using HrN.out), HX1, hb1⟩
          case round =>
            clear HX1 hb1 Hr1 HrN hge hgl2 hne hne2 hzq e0 e1 e2 e3 e4 e5 e6
            obtain ⟨m, g', cp', rest, dn, rfl, hrs, hm2, rfl, Hne, hpc, hlen, hrow, hbx, hbr⟩ := hrel
            have hzr := hbr.size
            by_cases hr0 : 0 < rest.size
            · have hr0i : (0 : Int) < (rest.size : Int) := by omega
              obtain ⟨q, hq⟩ : ∃ q : Nat, min N rest.size = q := ⟨_, rfl⟩
              have hq1 : 0 < q := by have := HN.out; omega
              have hq2 : q ≤ rest.size := by omega
              have Hcons : Hid (pieces N rest = rest.extract 0 q :: pieces N (rest.extract q rest.size)) := Lib.hid (by rw [pieces_cons HN.out hr0, hq])
              have Hsz : Hid ((rest.extract q rest.size).size = rest.size - q) := Lib.hid (ba_extract_size _ _ _ (Nat.le_refl _))
              have Hmin : Hid (min (N : Int) (rest.size : Int) = (q : Int)) := Lib.hid (by omega)
              have hqi : (q : Int) ≤ (rest.size : Int) := by omega
              clear hq
              go_wp2_with fail
              refine (specMin_any (N : Int) (rest.size : Int) _).mono ?_
              rw [Hmin.out]
              rintro _ _ ⟨rfl, rfl⟩
              obtain ⟨⟨e0, e1, e2, e3, e4, e5, e6⟩, _⟩ := hbx.out.seven
              have hge := hbx.out.lt
              have hgl := (World.ownsRow.lt hrow.out g' rfl)
              have hgl1 := hgl.1
              have hgl2 := hgl.2
              have hx2 := Box.fresh wr #[.int .i64 K, .int .i64 F, .int .u64 Bt, .int .i64 L, .string (rest.extract 0 q), .int .i64 C, .int .i64 P] 31
              have hb2 : Below w.heap.size w (wr.alloc (.cells #[.int .i64 K, .int .i64 F, .int .u64 Bt, .int .i64 L, .string (rest.extract 0 q), .int .i64 C, .int .i64 P] 31)) := hbr.alloc hzr _
              have HX2 : Hid (Box (wr.alloc (.cells #[.int .i64 K, .int .i64 F, .int .u64 Bt, .int .i64 L, .string (rest.extract 0 q), .int .i64 C, .int .i64 P] 31)) ge [.int .i64 K, .int .i64 F, .int .u64 Bt, .int .i64 L, .string Tx, .int .i64 C, .int .i64 P]) := Lib.hid (hbx.out.alloc _)
              have HR2 : Hid ((wr.alloc (.cells #[.int .i64 K, .int .i64 F, .int .u64 Bt, .int .i64 L, .string (rest.extract 0 q), .int .i64 C, .int .i64 P] 31)).ownsRow w.heap.size 31 7 (.slice (some ⟨g', 0, none⟩) m cp') m ((out ++ dn.map fun s => ({ kind := K, field := F, bits := Bt, len := L, text := s, code := C, pos := P } : Ev)).flatMap evC)) := Lib.hid (World.ownsRow.alloc hrow.out _)
              have hzz : (wr.alloc (.cells #[.int .i64 K, .int .i64 F, .int .u64 Bt, .int .i64 L, .string (rest.extract 0 q), .int .i64 C, .int .i64 P] 31)).heap.size = wr.heap.size + 1 := by simp
              go_upto_region 15 with fail
              generalize (wr.alloc (.cells #[.int .i64 K, .int .i64 F, .int .u64 Bt, .int .i64 L, .string (rest.extract 0 q), .int .i64 C, .int .i64 P] 31)) = wq2 at hx2 hb2 HX2 HR2 hzz ⊢
              have hgp : wr.heap.size < wq2.heap.size := by omega
              have hz2q : w.heap.size ≤ wq2.heap.size := hb2.size
              clear hzz hrow hbx hbr hzr e0 e1 e2 e3 e4 e5 e6 hge hgl hgl1 hgl2
              generalize wr.heap.size = gp at hx2 hgp ⊢
              have hx2' : Box wq2 gp [.int .i64 K, .int .i64 F, .int .u64 Bt, .int .i64 L, .string (rest.extract 0 q), .int .i64 C, .int .i64 P] := hx2
              clear hx2
              have Hpc : Hid (pieces N Tx = (dn ++ [rest.extract 0 q]) ++ pieces N (rest.extract q rest.size)) := Lib.hid (by rw [hpc.out, Hcons.out]; simp)
              have Hflat : Hid ((out ++ (dn ++ [rest.extract 0 q]).map fun s => ({ kind := K, field := F, bits := Bt, len := L, text := s, code := C, pos := P } : Ev)) = (out ++ dn.map fun s => ({ kind := K, field := F, bits := Bt, len := L, text := s, code := C, pos := P } : Ev)) ++ [⟨K, F, Bt, L, rest.extract 0 q, C, P⟩]) := Lib.hid (by simp)
              have Hm1 : Hid (m + 1 ≤ 2097152) := Lib.hid (by
                have h1 := Hmax.out
                rw [Hone.out, Hpc.out, List.map_append, List.length_append, List.length_append, List.length_map, List.length_append, List.length_singleton] at h1
                have h2 := hlen.out
                rw [List.length_append, List.length_map] at h2
                omega)
              clear hpc Hcons
              generalize hpce : rest.extract 0 q = pc at hx2' Hpc Hflat ⊢
              obtain ⟨⟨e0, e1, e2, e3, e4, e5, e6⟩, _⟩ := hx2'.seven
              have Hnew := Lib.hid (heap_alloc_new wq2 (.cells #[.int .i64 K, .int .i64 F, .int .u64 Bt, .int .i64 L, .string pc, .int .i64 C, .int .i64 P] 31))
              clear hpce hx2'
              go_wp2_with (at_builtin; refine wpList_append_lies _ (by rfl) (.tmp 48) (.tmp 50) 24 (by rfl) w.heap.size 31 i0 _ 7 64 Try.underlying24 hi hz0 hz1 hz2 (by rfl) (by omega) (.slice (some ⟨g', 0, none⟩) m cp') m _ (by rfl) (World.ownsRow.alloc HR2.out _) ⟨wq2.heap.size, 0, none⟩ 1 1 (evC ⟨K, F, Bt, L, pc, C, P⟩) (by rfl) (by rfl) (fun j u hj => World.news_of_block Hnew.out j u hj) (by intro u hu; simp [evC] at hu; rcases hu with rfl | rfl | rfl | rfl | rfl | rfl | rfl <;> rfl) (by omega) (by unfold maxLen; omega) (by omega) (by simp; omega) _ rfl ?_; intro g2 cap2 w2 hown2 hg2 hor2 hlt2)
              have hb3 := (hb2.alloc hb2.size (.cells #[.int .i64 K, .int .i64 F, .int .u64 Bt, .int .i64 L, .string pc, .int .i64 C, .int .i64 P] 31)).grown hg2 (by simp; have := hb2.size; omega) (fun q hq => (World.ownsRow.lt HR2.out q hq).1)
              have HX3 : Hid (Box w2 ge [.int .i64 K, .int .i64 F, .int .u64 Bt, .int .i64 L, .string Tx, .int .i64 C, .int .i64 P]) := Lib.hid (by
                have h := HX2.out.alloc (.cells #[.int .i64 K, .int .i64 F, .int .u64 Bt, .int .i64 L, .string pc, .int .i64 C, .int .i64 P] 31)
                have hne : g' ≠ ge := Hne.out
                refine ⟨Nat.lt_of_lt_of_le h.1 hg2.size, fun j hj => ?_⟩
                have hb := hg2.block ge h.1 (fun e => hne (by have e' : some ge = some g' := e; exact (Option.some.inj e').symm))
                exact ⟨(World.cell?_of_block (a := ⟨ge, j, none⟩) hb).trans (h.2 j hj).1, (World.frozen?_of_block (a := ⟨ge, j, none⟩) hb).trans (h.2 j hj).2⟩)
              have Hne2 : Hid (g2 ≠ ge) := Lib.hid (by
                rcases hor2 with h | h
                · have h' : some g' = some g2 := h
                  have := Option.some.inj h'; have := Hne.out; omega
                · have := HX2.out.lt; simp at h; omega)
              have HL : Hid ((out ++ (dn ++ [pc]).map fun s => ({ kind := K, field := F, bits := Bt, len := L, text := s, code := C, pos := P } : Ev)).length = m + 1) := Lib.hid (by rw [Hflat.out, List.length_append, hlen.out]; rfl)
              have HO : Hid (w2.ownsRow w.heap.size 31 7 (.slice (some ⟨g2, 0, none⟩) (m + 1) cap2) (m + 1) ((out ++ (dn ++ [pc]).map fun s => ({ kind := K, field := F, bits := Bt, len := L, text := s, code := C, pos := P } : Ev)).flatMap evC)) := Lib.hid (by rw [Hflat.out, flat_snoc]; exact hown2)
              clear hown2 hg2 hor2
              go_wp2_with fail
              go_roundw
              case rel => exact ⟨m + 1, g2, cap2, rest.extract q rest.size, dn ++ [pc], rfl, by rw [Hsz.out]; omega, Hm1.out, rfl, Hne2, Hpc, HL, HO, HX3, hb3⟩
              case measure => simp only [strLenV]; rw [Hsz.out]; omega
            · have hr0n : decide ((0 : Int) < (rest.size : Int)) = false := decide_eq_false (by omega)
              have hr0m : decide (0 < rest.size) = false := decide_eq_false hr0
              have Hfin : Hid (out ++ dn.map (fun s => ({ kind := K, field := F, bits := Bt, len := L, text := s, code := C, pos := P } : Ev)) = (l.take (k + 1)).flatMap (shatterOne N)) := Lib.hid (by
                rw [Hone.out, hpc.out, pieces_nil N (by omega), List.append_nil])
              clear hr0
              go_wp2_with fail
              go_roundw
              case rel => exact ⟨k + 1, m, g', cp', by omega, by go_num, by omega, rfl, Lib.hid (by rw [← Hfin.out]; exact hlen.out), Lib.hid (by unfold OwnE; rw [← Hfin.out, hlen.out]; exact hrow.out), hbr⟩
              case measure => simp [intOf]; omega
        · have nK := neI hK
          have nK2 : (K != 4) = true := by rw [bne, nK]; rfl
          have Hp : Hid ((l.take (k + 1)).flatMap (shatterOne N) = out ++ [⟨K, F, Bt, L, Tx, C, P⟩]) := Lib.hid (by rw [Hnext.out, shatter_other (by exact hK)])
          have Hnew := Lib.hid (heap_alloc_new wq (.cells #[.int .i64 K, .int .i64 F, .int .u64 Bt, .int .i64 L, .string Tx, .int .i64 C, .int .i64 P] 31))
          clear hK
          go_wp2_with (at_builtin; refine wpList_append_lies _ (by rfl) (.tmp 30) (.tmp 32) 24 (by rfl) w.heap.size 31 i0 _ 7 64 Try.underlying24 hi hz0 hz1 hz2 (by rfl) (by omega) (.slice (some ⟨g, 0, none⟩) n cp) n _ (by rfl) (World.ownsRow.alloc HrN.out _) ⟨wq.heap.size, 0, none⟩ 1 1 (evC ⟨K, F, Bt, L, Tx, C, P⟩) (by rfl) (by rfl) (fun j u hj => World.news_of_block Hnew.out j u hj) (by intro u hu; simp [evC] at hu; rcases hu with rfl | rfl | rfl | rfl | rfl | rfl | rfl <;> rfl) (by omega) (by unfold maxLen; omega) (by omega) (by simp; omega) _ rfl ?_; intro g2 cap2 w2 hown2 hg2 hor2 hlt2)
          have hb2 := (hb1.alloc hb1.size (.cells #[.int .i64 K, .int .i64 F, .int .u64 Bt, .int .i64 L, .string Tx, .int .i64 C, .int .i64 P] 31)).grown hg2 (by simp; have := hb1.size; omega) (fun q hq => (World.ownsRow.lt HrN.out q hq).1)
          have HL : Hid (((l.take (k + 1)).flatMap (shatterOne N)).length = n + 1) := Lib.hid (by rw [Hp.out, List.length_append, Hlen.out]; rfl)
          have HO : Hid (OwnE w2 w.heap.size 31 (.slice (some ⟨g2, 0, none⟩) (n + 1) cap2) ((l.take (k + 1)).flatMap (shatterOne N))) := Lib.hid (by unfold OwnE; rw [HL.out, Hp.out, flat_snoc]; exact hown2)
          clear hown2 hg2 hor2
          go_roundw
          case rel => exact ⟨k + 1, n + 1, g2, cap2, by omega, by go_num, by have := HL.out; have := Hmax.out; omega, rfl, HL, HO, hb2⟩
          case measure => simp [intOf]; omega
      · have hge : (l.length : Int) ≤ (k : Int) := by omega
        have hend : decide (k < l.length) = false := decide_eq_false hlt
        obtain rfl : k = l.length := by omega
        have hm : (l.take l.length).flatMap (shatterOne N) = shatteredE l N := by rw [List.take_length, Hs.out]
        rw [hm] at hlen hown
        go_wp2_with fail
        go_ret
        exact ⟨g, cp, by rw [hlen.out]; rfl, by rw [hlen.out]; exact hown.out, hbr⟩
end Go.Proofs.Yteplmjlllnbiiaa.Num
