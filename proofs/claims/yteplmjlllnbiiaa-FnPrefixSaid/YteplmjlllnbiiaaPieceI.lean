/-
  The walk of the program's piecesOf: a text cut into pieces; only new memory is written.
-/
import Derived.Test.YteplmjlllnbiiaaRunI
import Derived.Test.YteplmjlllnbiiaaStrs
import Derived.Laws.IdiomStrings
import Derived.Deep.LoopGhost
namespace Go.Proofs.Yteplmjlllnbiiaa.Num
open Go.RowKit Go.Proofs
set_option linter.unusedVariables false
set_option linter.unusedSimpArgs false
attribute [local go_sem] Region.wanted yielded

theorem info_str : ∃ i, Try.prog.info? 9 = some i ∧ i.zero = some (.string ByteArray.empty) ∧ i.size = 1 ∧ i.bytes = 16 := info_parts (by kernel_rfl)
/-- '[]byte(s)': new memory that holds the string's bytes. -/
theorem strRow (w : World) (s : ByteArray) : ∃ (cap : Nat) (w' : World), (convert 9 22 (.string s)).run Try.prog w = .ok (.slice (some ⟨w.heap.size, 0, none⟩) s.size cap) w' ∧ s.size ≤ cap ∧ w.heap.size < w'.heap.size ∧
    (∀ j (h : j < s.data.toList.length), w'.cell? ⟨w.heap.size, j, none⟩ = some (.int .u8 (s.data.toList[j].toNat : Int))) ∧ Below w.heap.size w w' := by
  have h := run_bytes_of_string (P := Try.prog) w 9 22 5 s Try.underlying9 Try.underlying22 Try.underlying5
  have hcap : s.size ≤ grownCap w s.size 0 5 := grownCap_ge _ _ _ _
  generalize grownCap w s.size 0 5 = cap at h hcap
  have hsz := ba_size s
  refine ⟨cap, _, h, hcap, by have := (((Below.refl w.heap.size w).alloc (Nat.le_refl _) (.cells #[] 5)).size); show w.heap.size < (w.drew.heap.push _).size; rw [Array.size_push]; exact Nat.lt_succ_self _, fun j hj => ?_, ((Below.refl w.heap.size w).alloc (Nat.le_refl _) _).drew⟩
  have hblk := heap_alloc_new w.drew (.cells (bytesRow s cap) 5 ((bytesRow s cap).size, (bytesRow s cap).size + 1))
  refine (cell_of_row _ w.heap.size j _ _ _ hblk).trans ?_
  have hj2 : j < s.data.size := by simpa using hj
  simp only [bytesRow, Array.getElem?_append, Array.size_map, Array.getElem?_map]
  rw [if_pos hj2, Array.getElem?_eq_getElem hj2]
  simp
/-- 'string(b[p:p+q])' of such memory. -/
theorem subConv {w : World} {g : Nat} {s : ByteArray} (hc : ∀ j (h : j < s.data.toList.length), w.cell? ⟨g, j, none⟩ = some (.int .u8 (s.data.toList[j].toNat : Int))) (p q c : Nat) (hpq : p + q ≤ s.size) :
    (convert 22 9 (.slice (some ⟨g, p, none⟩) q c)).run Try.prog w = .ok (.string (s.extract p (p + q))) w := by
  have hsz := ba_size s
  have hl : (s.extract p (p + q)).data.toList.length = q := by rw [← ba_size, ba_extract_size _ _ _ hpq]; omega
  have hr := run_convert_bytes_back (P := Try.prog) w 22 9 5 ⟨g, p, none⟩ c (s.extract p (p + q)).data.toList Try.underlying22 Try.underlying5 Try.underlying9 (fun j hj => by
    rw [addNone]
    rw [hl] at hj
    rw [hc (p + j) (by omega)]
    simp only [ba_ext_list _ _ _ hpq, List.getElem_drop, List.getElem_take])
  rw [hl] at hr
  exact hr
theorem extract_head (s : ByteArray) (p q : Nat) (h : p + q ≤ s.size) : (s.extract p s.size).extract 0 q = s.extract p (p + q) := by
  have h1 := ba_extract_size s p s.size (Nat.le_refl _)
  refine ba_ext ?_
  rw [ba_ext_list _ _ _ (by omega), ba_ext_list _ _ _ (Nat.le_refl _), ba_ext_list _ _ _ h]
  rw [List.drop_zero, ba_size, List.take_length, List.drop_take, Nat.add_sub_cancel_left]
theorem extract_tail (s : ByteArray) (p q : Nat) (h : p + q ≤ s.size) : (s.extract p s.size).extract q (s.extract p s.size).size = s.extract (p + q) s.size := by
  have h1 := ba_extract_size s p s.size (Nat.le_refl _)
  refine ba_ext ?_
  rw [ba_ext_list _ _ _ (Nat.le_refl _), ba_ext_list _ _ _ (Nat.le_refl _), ba_ext_list _ _ _ (Nat.le_refl _)]
  rw [h1, List.take_of_length_le (by rw [List.length_drop, List.length_take, ← ba_size]; omega), List.drop_drop]
theorem extract_all (s : ByteArray) : s.extract 0 s.size = s := ba_ext (by rw [ba_ext_list _ _ _ (Nat.le_refl _), ba_size, List.take_length, List.drop_zero])
attribute [-go_sem] run_min_int2
set_option maxHeartbeats 4000000 in
set_option maxRecDepth 100000 in
theorem piecesOf_any (s : ByteArray) (N : Nat) (w : World) (hN : 0 < N) (hN63 : (N : Int) ≤ 9223372036854775807) (hs : s.size ≤ 1048576) :
    Calls Try.prog 41 #[.string s, .int .i64 N] w fun e w' => (∃ a cap, e = .returned (.slice a (pieces N s).length cap) ∧ w'.ownsRow w.heap.size 9 1 (.slice a (pieces N s).length cap) (pieces N s).length ((pieces N s).map Value.string)) ∧ Below w.heap.size w w' := by
  obtain ⟨i0, hi, hz0, hz1, hz2⟩ := info_str
  obtain ⟨R, hR⟩ : ∃ R, pieces N s = R := ⟨_, rfl⟩
  rw [hR]
  have HR := Lib.hid hR
  have HN := Lib.hid hN
  obtain ⟨c0, w1, hcv, hc0, hz1', hcells, hb1⟩ := strRow w s
  obtain ⟨g, hg⟩ : ∃ g, w.heap.size = g := ⟨_, rfl⟩
  rw [hg] at hcv hcells hz1'
  have HC := Lib.hid hcells
  have hgw := Lib.hid hg
  have hzw : w.heap.size ≤ w1.heap.size := hb1.size
  obtain ⟨m, hm⟩ : ∃ m, s.size = m := ⟨_, rfl⟩
  rw [hm] at hcv hc0 hs
  have Hm := Lib.hid hm
  clear hR hN hcells hg hm
  go_enter Try.func41, Try.ntmps41
  go_wp2_with fail
  go_loopg [5, 6] m (fun gm s5 s6 wr => ∃ (p : Nat) (dn : List ByteArray) (a5 a6 : Option Addr) (n5 c5 c6 : Nat), s6 = .slice a6 gm c6 ∧ s5 = .slice a5 n5 c5 ∧ p + gm = m ∧ n5 ≤ p ∧ gm ≤ c6 ∧ Hid (0 < gm → a6 = some ⟨g, p, none⟩) ∧ Hid (R = dn ++ pieces N (s.extract p s.size)) ∧ Hid (dn.length = n5) ∧ Hid (wr.ownsRow w1.heap.size 9 1 (.slice a5 n5 c5) n5 (dn.map Value.string)) ∧ Below w1.heap.size w1 wr)
  case atStart => exact ⟨0, [], none, some ⟨g, 0, none⟩, 0, 0, c0, rfl, rfl, by omega, by omega, hc0, Lib.hid fun _ => rfl, Lib.hid (by rw [extract_all, List.nil_append]; exact HR.out.symm), Lib.hid rfl, Lib.hid (World.ownsRow_nil _ _ _ _), Below.refl _ _⟩
  case round =>
    clear hcv hc0
    obtain ⟨p, dn, a5, a6, n5, c5, c6, rfl, rfl, hpm, hnp, hgc, Ha, Hd, Hl, HO, hbr⟩ := hrel
    have hzr := hbr.size
    by_cases hpos : 0 < gk
    · have hposi : (0 : Int) < (gk : Int) := by omega
      obtain rfl := Ha.out hpos
      obtain ⟨q, hq⟩ : ∃ q : Nat, min N gk = q := ⟨_, rfl⟩
      have hq1 : 0 < q := by have := HN.out; omega
      have hq2 : q ≤ gk := by omega
      have Hps : Hid (p + q ≤ s.size) := Lib.hid (by have := Hm.out; omega)
      have Hcons : Hid (pieces N (s.extract p s.size) = s.extract p (p + q) :: pieces N (s.extract (p + q) s.size)) := Lib.hid (by
        have h1 := ba_extract_size s p s.size (Nat.le_refl _)
        have h2 := Hm.out
        rw [pieces_cons HN.out (by omega), show min N (s.extract p s.size).size = q by omega, extract_head s p q Hps.out, extract_tail s p q Hps.out])
      have hcvt : (convert 22 9 (.slice (some ⟨g, p, none⟩) q q)).run Try.prog wr = .ok (.string (s.extract p (p + q))) wr := subConv (fun j hj => (hbr.cell (p := ⟨g, j, none⟩) hz1').trans (HC.out j hj)) p q q Hps.out
      have Hd2 : Hid (R = (dn ++ [s.extract p (p + q)]) ++ pieces N (s.extract (p + q) s.size)) := Lib.hid (by rw [Hd.out, Hcons.out]; simp)
      generalize s.extract p (p + q) = pc at hcvt Hd2
      obtain ⟨A, hA⟩ : ∃ A, (if c6 = q then some (⟨g, p, none⟩ : Addr) else some ⟨g, p + q, none⟩) = A := ⟨_, rfl⟩
      have Ha2 : Hid (0 < gk - q → A = some ⟨g, p + q, none⟩) := Lib.hid fun h => by rw [← hA, if_neg (by omega)]
      have hmin : ∀ w, (Builtin.min_ #[3, 3] 3 #[.int .i64 N, .int .i64 gk]).run Try.prog w = .ok (.int .i64 q) w := fun w => by rw [run_min_int2]; congr 2; split <;> omega
      have hqc : (q : Int) ≤ (c6 : Int) := by omega
      have hqcn : q ≤ c6 := by omega
      have hqg : (q : Int) ≤ (gk : Int) := by omega
      have hgci : (gk : Int) ≤ (c6 : Int) := by omega
      have Hnew := Lib.hid (heap_alloc_new wr (.cells #[.string pc] 9))
      clear hq Hcons Hd
      have Hl2 : Hid ((dn ++ [pc]).length = n5 + 1) := Lib.hid (by rw [List.length_append, Hl.out]; rfl)
      have Happ : Hid (∀ (g2 cap2 : Nat) (w5 : World), w5.ownsRow w1.heap.size 9 1 (.slice (some ⟨g2, 0, none⟩) (n5 + 1) cap2) (n5 + 1) (dn.map Value.string ++ [.string pc]) → w5.ownsRow w1.heap.size 9 1 (.slice (some ⟨g2, 0, none⟩) (n5 + 1) cap2) (n5 + 1) ((dn ++ [pc]).map Value.string)) := Lib.hid fun g2 cap2 w5 h => by rw [List.map_append]; exact h
      generalize dn ++ [pc] = dn2 at Hd2 Hl2 Happ
      clear Ha
      go_wp2_with (at_builtin; refine wpList_append_lies _ (by rfl) (.tmp 17) (.tmp 23) 52 (by rfl) w1.heap.size 9 i0 _ 1 16 Try.underlying52 hi hz0 hz1 hz2 (by rfl) (by omega) (.slice a5 n5 c5) n5 _ (by rfl) (World.ownsRow.alloc HO.out _) ⟨wr.heap.size, 0, none⟩ 1 1 [.string pc] (by rfl) (by rfl) (fun j u hj => World.news_of_block Hnew.out j u hj) (by intro u hu; simp at hu; subst hu; rfl) (by omega) (by unfold maxLen; omega) (by omega) (by simp; omega) _ rfl ?_; intro g2 cap2 w5 hown2 hg2 hor2 hlt2)
      have ho2 := Lib.hid (Happ.out _ _ _ hown2)
      have hb25 := (hbr.alloc hzr (.cells #[.string pc] 9)).grown hg2 (by simp; omega) (fun q hq => (World.ownsRow.lt HO.out q hq).1)
      clear hown2 hg2 hor2 Happ Hnew HO hbr
      go_roundg (gk - q)
      case measure => omega
      case rel => exact ⟨p + q, dn2, some ⟨g2, 0, none⟩, A, n5 + 1, cap2, c6 - q, rfl, rfl, by omega, by omega, by omega, Ha2, Hd2, Hl2, ho2, hb25⟩
    · obtain rfl : gk = 0 := by omega
      have hend : Hid (R = dn) := Lib.hid (by
        rw [Hd.out, pieces_nil N (by rw [ba_extract_size _ _ _ (Nat.le_refl _)]; have := Hm.out; omega), List.append_nil])
      have hbf := Lib.hid (hb1.trans (hbr.mono hzw))
      have hO := Lib.hid (show wr.ownsRow w.heap.size 9 1 (.slice a5 n5 c5) n5 (dn.map Value.string) from (by
        obtain ⟨h1, h2⟩ := HO.out
        refine ⟨h1, ?_⟩
        rcases h2 with h2 | ⟨g', cap', cur, hv, hB, h3⟩
        · exact .inl h2
        · exact .inr ⟨g', cap', cur, hv, by omega, h3⟩))
      clear hpos
      go_wp2_with fail
      go_ret
      rw [hend.out, Hl.out]
      exact ⟨⟨a5, c5, rfl, hO.out⟩, hbf.out⟩
end Go.Proofs.Yteplmjlllnbiiaa.Num
