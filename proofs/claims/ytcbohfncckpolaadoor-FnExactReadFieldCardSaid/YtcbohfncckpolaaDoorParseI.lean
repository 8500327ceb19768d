/-
  The walks of the program's parseField and ReadField: the field whose text the string is, or the zero field and the sentinel (false); only new memory is written.
-/
import Derived.Test.YtcbohfncckpolaaDoorTakeWord
import Derived.Test.YtcbohfncckpolaaDoorKindLook
import Derived.Test.YtcbohfncckpolaaDoorFieldTextI
import Derived.Test.YtcbohfncckpolaaDoorSlsOf
import Derived.Test.YtcbohfncckpolaaDoorNumCall
import Derived.Test.YtcbohfncckpolaaDoorErrIs
import Derived.Test.YtcbohfncckpolaaDoorRound
namespace Go.Proofs.YtcbohfncckpolaaDoor.Num
open Go.RowKit Go.Proofs Go Go.WideMaps
set_option linter.unusedVariables false
set_option linter.unusedSimpArgs false

/-- The program's sentinel lies in its variable. -/
def sentV (a : Addr) : Value := .iface 178 (.pointer (some a))
def ErrText (w : World) (a : Addr) : Prop := w.cell? ⟨0, 0, none⟩ = some (sentV a) ∧ 0 < w.heap.size
theorem ErrText.below {w w' : World} {a : Addr} (h : ErrText w a) (hb : Below w.heap.size w w') : ErrText w' a := ⟨(hb.cell (p := ⟨_, 0, none⟩) h.2).trans h.1, Nat.lt_of_lt_of_le h.2 hb.size⟩
theorem ErrText.set {w : World} {a p : Addr} (h : ErrText w a) (hp : 0 < p.block) (v : Value) : ErrText (w.setCell p v) a := by
  refine ⟨?_, by simpa [World.setCell] using h.2⟩
  rw [World.cell?_setCell_other _ _ _ _ (by rintro rfl; exact absurd hp (by decide))]
  exact h.1
/-- Within the walk: the result's cell is still zero, the field being read lies at gf, the words that are left in v. -/
def PSt (a : Addr) (w wx : World) (D gf : Nat) (f : RF) (v : Value) (ss : List (List UInt8)) : Prop :=
  Box wx w.heap.size (fieldC zeroF) ∧ Box wx gf (fieldC f) ∧ w.heap.size < D ∧ D ≤ gf ∧ Below w.heap.size w wx ∧ ErrText wx a ∧ ∃ p n cap, v = .slice p n cap ∧ n ≤ 1048577 ∧ SlS wx D p n cap ss
section
variable {a : Addr} {w wx : World} {D gf : Nat} {f : RF} {v : Value} {ss : List (List UInt8)}
theorem PSt.all {w' : World} (h : PSt a w wx D gf f v ss) (hb : Below wx.heap.size wx w') : PSt a w w' D gf f v ss := by
  obtain ⟨h1, h2, h3, h4, h5, h6, p, n, cap, e, hn, hS⟩ := h
  exact ⟨h1.below hb h1.lt, h2.below hb h2.lt, h3, h4, h5.trans (hb.mono h5.size), h6.below hb, p, n, cap, e, hn, hS.below (hb.mono (Nat.le_of_lt (Nat.lt_of_le_of_lt h4 h2.lt)))⟩
theorem PSt.set (h : PSt a w wx D gf f v ss) (j : Nat) (u : Value) (f' : RF) (hf : (fieldC f).set j u = fieldC f') : PSt a w (wx.setCell ⟨gf, j, none⟩ u) D gf f' v ss := by
  obtain ⟨h1, h2, h3, h4, h5, h6, p, n, cap, e, hn, hS⟩ := h
  exact ⟨h1.other (by simp; omega) _, by rw [← hf]; exact h2.set j u, h3, h4, h5.setCell (by simp; omega) _, h6.set (by simp; omega) _, p, n, cap, e, hn, hS.set (by simpa using h4) _⟩
theorem PSt.words (h : PSt a w wx D gf f v ss) {p : Option Addr} {n cap : Nat} {ss' : List (List UInt8)} (hn : n ≤ 1048577) (hS : SlS wx D p n cap ss') : PSt a w wx D gf f (.slice p n cap) ss' := by
  obtain ⟨h1, h2, h3, h4, h5, h6, _⟩ := h
  exact ⟨h1, h2, h3, h4, h5, h6, p, n, cap, rfl, hn, hS⟩
end
set_option maxHeartbeats 4000000 in
set_option maxRecDepth 100000 in
theorem implParse_any (s : ByteArray) (a : Addr) (w : World) (hs : s.size ≤ 1048576) (hsh : w.ShapedOpen Tryd.prog) (hE : ErrText w a) :
    Calls Tryd.prog 31 #[.string s] w fun e w' => ((∃ f, readF s.data.toList = some f ∧ e = .returned (.tuple #[fieldV f, .nilIface])) ∨ (readF s.data.toList = none ∧ e = .returned (.tuple #[fieldV zeroF, sentV a]))) ∧ Below w.heap.size w w' := by
  rw [← parseW_readF]
  have hplen := partsF_length 32 s.data.toList
  have hpne := partsF_ne 32 s.data.toList
  have hpmem := partsF_mem 32 s.data.toList
  have hsl : s.data.toList.length = s.size := by simp
  have hb1 : Below w.heap.size w (w.alloc (.cells #[.int .i64 0, .int .i64 0, .bool false, .bool false, .int .i64 0] 25)) := (Below.refl _ _).alloc (Nat.le_refl _) _
  have hx1 := Box.fresh w #[.int .i64 0, .int .i64 0, .bool false, .bool false, .int .i64 0] 25
  have HP := Lib.hid (implParts_any s 32 (w.alloc (.cells #[.int .i64 0, .int .i64 0, .bool false, .bool false, .int .i64 0] 25)) hs (shaped_below hsh hb1))
  rw [show ((32 : UInt8).toNat : Int) = 32 from rfl] at HP
  generalize hws : partsF 32 s.data.toList = ws at hplen hpne hpmem HP ⊢
  have Hws := Lib.hid hws
  clear hws hsh
  obtain ⟨R, hR⟩ : ∃ R, parseW ws = R := ⟨_, rfl⟩
  rw [hR]
  have HR := Lib.hid hR
  clear hR
  have hz1 : w.heap.size < (w.alloc (.cells #[.int .i64 0, .int .i64 0, .bool false, .bool false, .int .i64 0] 25)).heap.size := by simp
  go_enter Tryd.func31, Tryd.ntmps31
  go_wp2_with fail
  generalize (w.alloc (.cells #[.int .i64 0, .int .i64 0, .bool false, .bool false, .int .i64 0] 25)) = w1 at hb1 hx1 HP hz1 ⊢
  refine HP.out.mono ?_
  rintro e w2 ⟨v, P, rfl, hP, hown, hb2⟩
  rw [Hws.out] at hP
  obtain ⟨g, cap, rfl, hg, hS⟩ := slS_of (w := w) hown hP hpne
  have hl2 := hb1.trans (hb2.mono hb1.size)
  have hz0 : 0 < w.heap.size := Nat.lt_of_le_of_lt (Nat.zero_le _) hE.2
  have HX2 := Lib.hid (hx1.below hb2 hz1)
  have HE2 := Lib.hid (hE.below hl2)
  have hz2 : w.heap.size < w2.heap.size := Nat.lt_of_lt_of_le hz1 hb2.size
  have hn : ws.length ≤ 1048577 := by omega
  have Hmem : Hid (∀ p ∈ ws, p.length ≤ 1048576) := Lib.hid fun p hp => by have := hpmem p hp; omega
  have HS := Lib.hid hS
  clear hown hb2 hx1 hE hP hb1 hS HP hplen hpmem hsl Hws
  match ws, hpne, HS, hn, Hmem, HR with
  | [], hpne, HS, hn, Hmem, HR => exact absurd rfl hpne
  | [x], hpne, HS, hn, Hmem, HR =>
    have Hr : Hid (R = none) := Lib.hid (by rw [← HR.out]; rfl)
    clear HS Hmem HR
    obtain ⟨e0, e1⟩ := HE2.out
    have hne1 : ¬ ((0 : Nat) = w.heap.size) := by omega
    have hne2 : ¬ (w.heap.size = 0) := by omega
    obtain ⟨⟨c0, c1, c2, c3, c4⟩, k0, k1, k2, k3, k4⟩ := Box.five HX2.out
    unfold sentV at *
    go_wp2_with fail
    go_region
    all_goals
      go_wp2_with fail
      refine bodyPost_ret (v := .tuple #[.agg #[.int .i64 0, .int .i64 0, .bool false, .bool false, .int .i64 0], .iface 178 (.pointer (some a))]) (by simp [results, Tryd.results31, go_sem, c0, c1, c2, c3, c4]) rfl ?_
      refine ⟨.inr ⟨Hr.out, rfl⟩, ?_⟩
      first
        | exact (((((hl2.setCell (by simp) _).setCell (by simp) _).setCell (by simp) _).setCell (by simp) _).setCell (by simp) _).drew
        | exact (((((hl2.drew.setCell (by simp) _).setCell (by simp) _).setCell (by simp) _).setCell (by simp) _).setCell (by simp) _)
  | h :: k :: t, hpne, HS, hn, Hmem, HR =>
    obtain ⟨e0, e1⟩ := HE2.out
    have hne1 : ¬ ((0 : Nat) = w.heap.size) := by omega
    have hne2 : ¬ (w.heap.size = 0) := by omega
    have hn2 : 2 ≤ (h :: k :: t).length := by simp
    obtain ⟨hSl, hSc, hSv⟩ := HS.out
    obtain ⟨b, o, hp, hblt, hcells⟩ := HS.out.cells (by omega)
    obtain ⟨rfl, rfl⟩ : g = b ∧ 0 = o := by injection hp with hp; injection hp with h1 h2; exact ⟨h1, h2⟩
    have q0 := hcells 0 (by simp)
    have q1 := hcells 1 (by simp)
    simp only [List.getElem_cons_zero, List.getElem_cons_succ, Nat.zero_add] at q0 q1
    have hkm := Hmem.out k (by simp)
    obtain ⟨sk, hsk⟩ : ∃ s : ByteArray, s = ⟨k.toArray⟩ := ⟨_, rfl⟩
    obtain ⟨sh, hsh⟩ : ∃ s : ByteArray, s = ⟨h.toArray⟩ := ⟨_, rfl⟩
    rw [← hsk] at q1
    rw [← hsh] at q0
    have hskz : sk.size ≤ maxLen := by rw [hsk]; simp [ByteArray.size]; unfold maxLen; omega
    have Hsk : Hid (sk.data.toList = k) := Lib.hid (by rw [hsk])
    have Hsh : Hid (sh.data.toList = h) := Lib.hid (by rw [hsh])
    have Hshz : Hid (sh.size ≤ 9223372036854775807) := Lib.hid (by have := Hmem.out h (by simp); rw [hsh]; simp [ByteArray.size]; omega)
    clear hcells hp hSv hsk hsh hkm
    generalize hN : (h :: k :: t).length = N at *
    have hNi : ¬ ((N : Int) < 2) := by omega
    have hN1 : (1 : Int) < (N : Int) := by omega
    obtain ⟨K, hK⟩ : ∃ K, kindTo k 0 8 = K := ⟨_, rfl⟩
    have Hk : Hid (∀ (wx : World) (bb : Nat), wx.ownsMap Tryd.prog 9 (plainElem Tryd.prog 3) bb 8 KD → (Instr.lookup 77 (.map (some bb)) (.string sk) false).run Tryd.prog wx = .ok (.int .i64 K) wx) := Lib.hid fun wx bb hm => by
      rw [kd_run sk hskz hm, Hsk.out, hK]
    have HK := Lib.hid hK
    have HN := Lib.hid hN
    have hgg : g < w2.heap.size := hblt
    clear hK hskz hN
    go_upto_region 4 with fail
    go_cut [5] (fun s5 wx => ∃ gf, s5 = .pointer (some ⟨gf, 0, none⟩) ∧ w2.heap.size ≤ gf ∧ Hid (Box wx gf [.int .i64 0, .int .i64 K, .bool false, .bool false, .int .i64 0]) ∧ Below w2.heap.size w2 wx)
    case first =>
      go_region_with (go_at_call 49; refine (kinds_any _).mono ?_; rintro e w4 ⟨rfl, hown, hg4⟩; (first
        | (have hb4 : Below w2.heap.size w2 w4 := Below.grown (row := none) (w := (w2.alloc (.cells #[.int .i64 0, .int .i64 0, .bool false, .bool false, .int .i64 0] 25)).drew) ((Below.refl _ _).alloc (Nat.le_refl _) _).drew hg4 (by simp) (fun j hj => by cases hj)
           have hx4 : Box w4 w2.heap.size [.int .i64 0, .int .i64 0, .bool false, .bool false, .int .i64 0] := Box.grown hg4 (Box.drew (Box.fresh w2 #[.int .i64 0, .int .i64 0, .bool false, .bool false, .int .i64 0] 25)) (fun j hj => by cases hj)
           obtain ⟨⟨d0, d1, d2, d3, d4⟩, f0, f1, f2, f3, f4⟩ := Box.five hx4
           have hk4 : (Instr.lookup 77 (.map (some (w2.heap.size + 1))) (.string sk) false).run Tryd.prog w4 = .ok (.int .i64 K) w4 := Hk.out w4 _ (by have h := hown; rwa [show (w2.alloc (.cells #[.int .i64 0, .int .i64 0, .bool false, .bool false, .int .i64 0] 25)).drew.heap.size = w2.heap.size + 1 by simp] at h))
        | (have hb4 : Below w2.heap.size w2 w4 := Below.grown (Below.refl _ _).drew hg4 (Nat.le_refl _) (fun j hj => by cases hj)
           have hk4 : (Instr.lookup 77 (.map (some w2.heap.size)) (.string sk) false).run Tryd.prog w4 = .ok (.int .i64 K) w4 := Hk.out w4 _ hown
           have hk5 : ∀ o, (Instr.lookup 77 (.map (some w2.heap.size)) (.string sk) false).run Tryd.prog (w4.alloc o) = .ok (.int .i64 K) (w4.alloc o) := fun o => Hk.out _ _ (hown.alloc o))); have q4 := (hb4.cell (p := ⟨g, 1, none⟩) hblt).trans q1; have hz4 : g < w4.heap.size := Nat.lt_of_lt_of_le hblt hb4.size)
      all_goals
        go_wp2_with fail
        go_meet
        first
          | (have hB5 : Box (((((w4.setCell ⟨w2.heap.size, 0, none⟩ (.int .i64 0)).setCell ⟨w2.heap.size, 1, none⟩ (.int .i64 K)).setCell ⟨w2.heap.size, 2, none⟩ (.bool false)).setCell ⟨w2.heap.size, 3, none⟩ (.bool false)).setCell ⟨w2.heap.size, 4, none⟩ (.int .i64 0)) w2.heap.size [.int .i64 0, .int .i64 K, .bool false, .bool false, .int .i64 0] := ((((hx4.set 0 (.int .i64 0)).set 1 (.int .i64 K)).set 2 (.bool false)).set 3 (.bool false)).set 4 (.int .i64 0)
             have hb5 : Below w2.heap.size w2 (((((w4.setCell ⟨w2.heap.size, 0, none⟩ (.int .i64 0)).setCell ⟨w2.heap.size, 1, none⟩ (.int .i64 K)).setCell ⟨w2.heap.size, 2, none⟩ (.bool false)).setCell ⟨w2.heap.size, 3, none⟩ (.bool false)).setCell ⟨w2.heap.size, 4, none⟩ (.int .i64 0)) := ((((hb4.setCell (by simp) _).setCell (by simp) _).setCell (by simp) _).setCell (by simp) _).setCell (by simp) _
             exact ⟨w2.heap.size, rfl, Nat.le_refl _, Lib.hid (by with_reducible exact hB5), by with_reducible exact hb5⟩)
          | exact ⟨w4.heap.size, rfl, hb4.size, Lib.hid (by with_reducible exact Box.fresh w4 #[.int .i64 0, .int .i64 K, .bool false, .bool false, .int .i64 0] 25), by with_reducible exact hb4.alloc hb4.size _⟩
          | (trace_state; sorry)
    case rest =>
      obtain ⟨gf, rfl, hgf, HF, hl⟩ := hcut
      have hll := hl2.trans (hl.mono (Nat.le_of_lt hz2))
      have q0' := (hl.cell (p := ⟨g, 0, none⟩) hblt).trans q0
      have HPx : Hid (PSt a w wc w2.heap.size gf (0, K, false, false, 0) (.slice (some ⟨g, 0, none⟩) N cap) (h :: k :: t)) := Lib.hid ⟨HX2.out.below hl hz2, HF.out, hz2, hgf, hll, HE2.out.below hl, _, _, _, rfl, hn, HS.out.below hl⟩
      clear HX2 HE2 HS e0 q0 q1 HF hl hll
      obtain ⟨⟨f0, f1, f2, f3, f4⟩, g0, g1, g2, g3, g4⟩ := Box.five HPx.out.2.1
      obtain ⟨nh, hnh⟩ : ∃ n : Int, ((parse 999999999 h).1 : Int) = n := ⟨_, rfl⟩
      obtain ⟨bh, hbh⟩ : ∃ b, (parse 999999999 h).2 = b := ⟨_, rfl⟩
      have HNum : Hid (∀ wx, Calls Tryd.prog 54 #[.string sh] wx fun e w' => e = .returned (.tuple #[.int .i64 nh, .bool bh]) ∧ Below wx.heap.size wx w') := Lib.hid fun wx => by
        have h := number_any sh wx Hshz.out
        rw [Hsh.out, hnh, hbh] at h
        exact h
      have Hnh := Lib.hid hnh
      clear hnh hbh Hsh Hshz
      go_wp2_with fail
      refine (HNum.out _).mono ?_
      rintro e w6 ⟨rfl, hb6⟩
      have HP6 := Lib.hid (HPx.out.all hb6)
      clear HPx hb6 q0' f0 f1 f2 f3 f4 g0 g1 g2 g3 g4 HNum
      obtain ⟨⟨f0, f1, f2, f3, f4⟩, g0, g1, g2, g3, g4⟩ := Box.five HP6.out.2.1
      go_upto_region 6 with fail
      have HP7 : Hid (PSt a w (w6.setCell ⟨gf, 0, none⟩ (.int .i64 nh)) w2.heap.size gf (nh, K, false, false, 0) (.slice (some ⟨g, 0, none⟩) N cap) (h :: k :: t)) := Lib.hid (HP6.out.set 0 _ _ rfl)
      clear HP6 f0 f1 f2 f3 f4 g0 g1 g2 g3 g4
      generalize w6.setCell ⟨gf, 0, none⟩ (.int .i64 nh) = w7 at HP7 ⊢
      have hS7 : SlS w7 w2.heap.size (some ⟨g, 0, none⟩) N cap (h :: k :: t) := by
        obtain ⟨_, _, _, _, _, _, p, n, c, e, _, hS⟩ := HP7.out
        injection e with e1 e2 e3
        subst e1 e2 e3
        exact hS
      have hf7 := hS7.from 2 hn2
      rw [show List.drop 2 (h :: k :: t) = t from rfl] at hf7
      go_cut [4] (fun s4 wx => Hid (PSt a w wx w2.heap.size gf (nh, K, false, false, 0) s4 t))
      case first =>
        have hn2i : (2 : Int) ≤ (N : Int) := by omega
        by_cases hc2 : cap = 2
        · subst hc2
          obtain rfl : N = 2 := by omega
          rw [if_pos rfl] at hf7
          simp only [Nat.sub_self] at hf7
          have HE := Lib.hid (HP7.out.words (by omega) hf7)
          clear hS7 hf7 HP7
          go_wp2_with fail
          go_meet
          exact HE
        · rw [if_neg hc2, show (some (⟨g, 0, none⟩ : Addr)).map (·.add (2 * 1)) = some ⟨g, 2, none⟩ from rfl] at hf7
          have HE := Lib.hid (HP7.out.words (by omega) hf7)
          have hc3 : cap - 2 ≠ 0 := by omega
          clear hS7 hf7 HP7
          go_wp2_with fail
          go_meet
          exact HE
      case rest =>
        have HP8 := hcut
        obtain ⟨p8, n8, c8, rfl, hn8, hS8⟩ := HP8.out.2.2.2.2.2.2
        have HS8 := Lib.hid hS8
        clear hcut HP7 hf7 hS7 hS8
        by_cases h8 : K = 8
        · subst h8
          match t, HP8, HS8, HR, HN, Hmem with
          | [], HP8, HS8, HR, HN, Hmem =>
            obtain rfl : n8 = 0 := by have := HS8.out.1; simpa using this.symm
            have Hx : Hid (refW 8 [] = (0, [])) := Lib.hid (by unfold refW; rw [if_pos rfl])
            have HPr : Hid (PSt a w _ w2.heap.size gf (nh, 8, false, false, 0) (.slice p8 0 c8) []) := HP8
            have HSr := HS8
            have hnr : 0 ≤ 1048577 := by omega
            clear HP8 HS8 hn8
            obtain ⟨⟨f0, f1, f2, f3, f4⟩, g0, g1, g2, g3, g4⟩ := Box.five HPr.out.2.1
            go_wp2_with fail
            obtain ⟨a1, r1, ha1⟩ : ∃ a1 r1, takeR repW [] = (a1, r1) := ⟨_, _, rfl⟩
            obtain ⟨b1, r2, hb1⟩ : ∃ b1 r2, takeR packW r1 = (b1, r2) := ⟨_, _, rfl⟩
            have HT1 : Hid (∀ (wx : World) (p : Option Addr) (n c : Nat), SlS wx w2.heap.size p n c [] → n ≤ 1048577 → Calls Tryd.prog 55 #[.slice p n c, .string ⟨#[114, 101, 112, 101, 97, 116, 101, 100]⟩] wx fun e w' => ∃ p' n' cap', e = .returned (.tuple #[.bool a1, .slice p' n' cap']) ∧ n' ≤ 1048577 ∧ SlS w' w2.heap.size p' n' cap' r1 ∧ Below wx.heap.size wx w') := Lib.hid fun wx p n c hS hn => by
              have h := takeWord_any w2.heap.size p n c [] ⟨#[114, 101, 112, 101, 97, 116, 101, 100]⟩ wx hS hn
              rw [show (⟨#[114, 101, 112, 101, 97, 116, 101, 100]⟩ : ByteArray).data.toList = repW from rfl, ha1] at h
              simp only at h
              exact h
            have HT2 : Hid (∀ (wx : World) (p : Option Addr) (n c : Nat), SlS wx w2.heap.size p n c r1 → n ≤ 1048577 → Calls Tryd.prog 55 #[.slice p n c, .string ⟨#[112, 97, 99, 107, 101, 100]⟩] wx fun e w' => ∃ p' n' cap', e = .returned (.tuple #[.bool b1, .slice p' n' cap']) ∧ n' ≤ 1048577 ∧ SlS w' w2.heap.size p' n' cap' r2 ∧ Below wx.heap.size wx w') := Lib.hid fun wx p n c hS hn => by
              have h := takeWord_any w2.heap.size p n c r1 ⟨#[112, 97, 99, 107, 101, 100]⟩ wx hS hn
              rw [show (⟨#[112, 97, 99, 107, 101, 100]⟩ : ByteArray).data.toList = packW from rfl, hb1] at h
              simp only at h
              exact h
            have Hpt : Hid (parseT h k [] = ((nh, 8, a1, b1, 0), r2)) := Lib.hid (by
              unfold parseT
              simp only [HK.out, Hnh.out, Hx.out, ha1, hb1])
            clear ha1 hb1 Hx
            refine (HT1.out _ _ _ _ HSr.out hnr).mono ?_
            rintro e w10 ⟨p10, n10, c10, rfl, hn10, hS10, hb10⟩
            have HP10 := Lib.hid ((HPr.out.all hb10).words hn10 hS10)
            clear HPr HSr hnr hS10 hb10 f0 f1 f2 f3 f4 g0 g1 g2 g3 g4 HT1
            obtain ⟨⟨f0, f1, f2, f3, f4⟩, g0, g1, g2, g3, g4⟩ := Box.five HP10.out.2.1
            go_upto_region 11 with fail
            have HP11 : Hid (PSt a w (w10.setCell ⟨gf, 2, none⟩ (.bool a1)) w2.heap.size gf (nh, 8, a1, false, 0) (.slice p10 n10 c10) r1) := Lib.hid (HP10.out.set 2 _ _ rfl)
            clear HP10 f0 f1 f2 f3 f4 g0 g1 g2 g3 g4
            generalize w10.setCell ⟨gf, 2, none⟩ (.bool a1) = w11 at HP11 ⊢
            have HS11 : Hid (SlS w11 w2.heap.size p10 n10 c10 r1) := Lib.hid (by
              obtain ⟨_, _, _, _, _, _, p, n, c, e, _, hS⟩ := HP11.out
              injection e with e1 e2 e3
              subst e1 e2 e3
              exact hS)
            go_wp2_with fail
            refine (HT2.out _ _ _ _ HS11.out hn10).mono ?_
            rintro e w12 ⟨p12, n12, c12, rfl, hn12, hS12, hb12⟩
            have HP12 := Lib.hid ((HP11.out.all hb12).words hn12 hS12)
            have hl12 : r2.length = n12 := hS12.1
            clear HP11 HS11 hn10 hS12 hb12 HT2
            obtain ⟨⟨f0, f1, f2, f3, f4⟩, g0, g1, g2, g3, g4⟩ := Box.five HP12.out.2.1
            go_upto_region 12 with fail
            have HP13 : Hid (PSt a w (w12.setCell ⟨gf, 3, none⟩ (.bool b1)) w2.heap.size gf (nh, 8, a1, b1, 0) (.slice p12 n12 c12) r2) := Lib.hid (HP12.out.set 3 _ _ rfl)
            clear HP12 f0 f1 f2 f3 f4 g0 g1 g2 g3 g4
            generalize w12.setCell ⟨gf, 3, none⟩ (.bool b1) = w13 at HP13 ⊢
            obtain ⟨⟨f0, f1, f2, f3, f4⟩, g0, g1, g2, g3, g4⟩ := Box.five HP13.out.2.1
            by_cases h0 : r2 = []
            · obtain rfl : n12 = 0 := by rw [← hl12, h0]; rfl
              have HH := Lib.hid (implHasText_any (nh, 8, a1, b1, 0))
              by_cases ht : hasText (nh, 8, a1, b1, 0)
              · rw [decide_eq_true ht] at HH
                have Hr : Hid (R = some (nh, 8, a1, b1, 0)) := Lib.hid (by rw [← HR.out]; unfold parseW; simp only; rw [Hpt.out]; rw [if_pos ⟨h0, ht⟩])
                unfold fieldV at HH
                simp only at HH
                clear h0 ht Hpt HR hl12
                go_wp2_with fail
                refine (HH.out _).mono ?_
                rintro e w14 ⟨rfl, hb14⟩
                have HP14 := Lib.hid (HP13.out.all hb14)
                clear HP13 hb14 f0 f1 f2 f3 f4 g0 g1 g2 g3 g4 HH
                obtain ⟨⟨f0, f1, f2, f3, f4⟩, g0, g1, g2, g3, g4⟩ := Box.five HP14.out.2.1
                obtain ⟨⟨c0, c1, c2, c3, c4⟩, k0, k1, k2, k3, k4⟩ := Box.five HP14.out.1
                go_wp2_with fail
                refine bodyPost_ret (v := .tuple #[.agg #[.int .i64 nh, .int .i64 8, .bool a1, .bool b1, .int .i64 0], .nilIface]) (by simp [results, Tryd.results31, go_sem, c0, c1, c2, c3, c4]) rfl ?_
                exact ⟨.inl ⟨_, Hr.out, rfl⟩, (((((HP14.out.2.2.2.2.1.setCell (by simp) _).setCell (by simp) _).setCell (by simp) _).setCell (by simp) _).setCell (by simp) _)⟩
              · rw [decide_eq_false ht] at HH
                have Hr : Hid (R = none) := Lib.hid (by rw [← HR.out]; unfold parseW; simp only; rw [Hpt.out]; rw [if_neg fun e => ht e.2])
                unfold fieldV at HH
                simp only at HH
                clear h0 ht Hpt HR hl12
                go_wp2_with fail
                refine (HH.out _).mono ?_
                rintro e w14 ⟨rfl, hb14⟩
                have HP14 := Lib.hid (HP13.out.all hb14)
                clear HP13 hb14 f0 f1 f2 f3 f4 g0 g1 g2 g3 g4 HH
                obtain ⟨⟨c0, c1, c2, c3, c4⟩, k0, k1, k2, k3, k4⟩ := Box.five HP14.out.1
                obtain ⟨e0, e1⟩ := HP14.out.2.2.2.2.2.1
                unfold sentV at e0
                go_wp2_with fail
                go_region
                all_goals
                  go_wp2_with fail
                  refine bodyPost_ret (v := .tuple #[.agg #[.int .i64 0, .int .i64 0, .bool false, .bool false, .int .i64 0], .iface 178 (.pointer (some a))]) (by simp [results, Tryd.results31, go_sem, c0, c1, c2, c3, c4]) rfl ?_
                  refine ⟨.inr ⟨Hr.out, rfl⟩, ?_⟩
                  first
                    | exact (((((HP14.out.2.2.2.2.1.setCell (by simp) _).setCell (by simp) _).setCell (by simp) _).setCell (by simp) _).setCell (by simp) _).drew
                    | exact (((((HP14.out.2.2.2.2.1.drew.setCell (by simp) _).setCell (by simp) _).setCell (by simp) _).setCell (by simp) _).setCell (by simp) _)
            · have hp12 : 0 < n12 := by rw [← hl12]; exact List.length_pos_iff.2 h0
              have Hr : Hid (R = none) := Lib.hid (by rw [← HR.out]; unfold parseW; simp only; rw [Hpt.out]; rw [if_neg fun e => h0 e.1])
              have hp12i : (0 : Int) < (n12 : Int) := by omega
              clear h0 Hpt HR hl12 f0 f1 f2 f3 f4 g0 g1 g2 g3 g4
              obtain ⟨⟨c0, c1, c2, c3, c4⟩, k0, k1, k2, k3, k4⟩ := Box.five HP13.out.1
              obtain ⟨e0, e1⟩ := HP13.out.2.2.2.2.2.1
              unfold sentV at e0
              go_wp2_with fail
              go_region
              all_goals
                go_wp2_with fail
                refine bodyPost_ret (v := .tuple #[.agg #[.int .i64 0, .int .i64 0, .bool false, .bool false, .int .i64 0], .iface 178 (.pointer (some a))]) (by simp [results, Tryd.results31, go_sem, c0, c1, c2, c3, c4]) rfl ?_
                refine ⟨.inr ⟨Hr.out, rfl⟩, ?_⟩
                first
                  | exact (((((HP13.out.2.2.2.2.1.setCell (by simp) _).setCell (by simp) _).setCell (by simp) _).setCell (by simp) _).setCell (by simp) _).drew
                  | exact (((((HP13.out.2.2.2.2.1.drew.setCell (by simp) _).setCell (by simp) _).setCell (by simp) _).setCell (by simp) _).setCell (by simp) _)
          | y :: t, HP8, HS8, HR, HN, Hmem =>
            have hn81 : 0 < n8 := by have := HS8.out.1; simp at this; omega
            have hn8i : (0 : Int) < (n8 : Int) := by omega
            obtain ⟨x, hx⟩ : ∃ x : Int, ((parse 999999999 y).1 : Int) = x := ⟨_, rfl⟩
            obtain ⟨r, hr⟩ : ∃ r, t = r := ⟨_, rfl⟩
            have Hx : Hid (refW 8 (y :: t) = (x, r)) := Lib.hid (by unfold refW; rw [if_pos rfl]; simp only [hx, hr])
            obtain ⟨by', hby⟩ : ∃ b, (parse 999999999 y).2 = b := ⟨_, rfl⟩
            obtain ⟨sy, hsy⟩ : ∃ s : ByteArray, s = ⟨y.toArray⟩ := ⟨_, rfl⟩
            have HNy : Hid (∀ wx, Calls Tryd.prog 54 #[.string sy] wx fun e w' => e = .returned (.tuple #[.int .i64 x, .bool by']) ∧ Below wx.heap.size wx w') := Lib.hid fun wx => by
              have h := number_any sy wx (by have := Hmem.out y (by simp); rw [hsy]; simp [ByteArray.size]; omega)
              rw [show sy.data.toList = y by rw [hsy], hx, hby] at h
              exact h
            obtain ⟨b8, o8, rfl, hb8, hcs8⟩ := HS8.out.cells hn81
            have q8 := hcs8 0 (by simp)
            simp only [List.getElem_cons_zero, Nat.add_zero] at q8
            rw [← hsy] at q8
            have hcap8 := HS8.out.2.1
            clear hcs8 hx hby hsy
            obtain ⟨⟨f0, f1, f2, f3, f4⟩, g0, g1, g2, g3, g4⟩ := Box.five HP8.out.2.1
            go_wp2_with fail
            refine (HNy.out _).mono ?_
            rintro e w8 ⟨rfl, hb9⟩
            have HP9 := Lib.hid (HP8.out.all hb9)
            clear HP8 HS8 hb9 q8 f0 f1 f2 f3 f4 g0 g1 g2 g3 g4 HNy
            obtain ⟨⟨f0, f1, f2, f3, f4⟩, g0, g1, g2, g3, g4⟩ := Box.five HP9.out.2.1
            go_upto_region 9 with fail
            have HP9' : Hid (PSt a w (w8.setCell ⟨gf, 4, none⟩ (.int .i64 x)) w2.heap.size gf (nh, 8, false, false, x) (.slice (some ⟨b8, o8, none⟩) n8 c8) (y :: t)) := Lib.hid (HP9.out.set 4 _ _ rfl)
            clear HP9 f0 f1 f2 f3 f4 g0 g1 g2 g3 g4
            generalize w8.setCell ⟨gf, 4, none⟩ (.int .i64 x) = w9 at HP9' ⊢
            have hS9 : SlS w9 w2.heap.size (some ⟨b8, o8, none⟩) n8 c8 (y :: t) := by
              obtain ⟨_, _, _, _, _, _, p, n, c, e, _, hS⟩ := HP9'.out
              injection e with e1 e2 e3
              subst e1 e2 e3
              exact hS
            have hf9 := hS9.from 1 hn81
            rw [show List.drop 1 (y :: t) = t from rfl, hr] at hf9
            go_cut [4] (fun s4 wx => Hid (PSt a w wx w2.heap.size gf (nh, 8, false, false, x) s4 r))
            case first =>
              have hn1i : (1 : Int) ≤ (n8 : Int) := by omega
              by_cases hc2 : c8 = 1
              · subst hc2
                obtain rfl : n8 = 1 := by omega
                rw [if_pos rfl] at hf9
                simp only [Nat.sub_self] at hf9
                have HE := Lib.hid (HP9'.out.words (by omega) hf9)
                clear hS9 hf9 HP9'
                go_wp2_with fail
                go_meet
                exact HE
              · rw [if_neg hc2, show (some (⟨b8, o8, none⟩ : Addr)).map (·.add (1 * 1)) = some ⟨b8, o8 + 1, none⟩ from rfl] at hf9
                have HE := Lib.hid (HP9'.out.words (by omega) hf9)
                have hc3 : c8 - 1 ≠ 0 := by omega
                clear hS9 hf9 HP9'
                go_wp2_with fail
                go_meet
                exact HE
            case rest =>
              have HPr := hcut
              obtain ⟨p9, n9, c9, rfl, hnr, hSr⟩ := HPr.out.2.2.2.2.2.2
              have HSr := Lib.hid hSr
              clear hcut HP9' hf9 hS9 hSr hr
              obtain ⟨⟨f0, f1, f2, f3, f4⟩, g0, g1, g2, g3, g4⟩ := Box.five HPr.out.2.1
              go_wp2_with fail
              obtain ⟨a1, r1, ha1⟩ : ∃ a1 r1, takeR repW r = (a1, r1) := ⟨_, _, rfl⟩
              obtain ⟨b1, r2, hb1⟩ : ∃ b1 r2, takeR packW r1 = (b1, r2) := ⟨_, _, rfl⟩
              have HT1 : Hid (∀ (wx : World) (p : Option Addr) (n c : Nat), SlS wx w2.heap.size p n c r → n ≤ 1048577 → Calls Tryd.prog 55 #[.slice p n c, .string ⟨#[114, 101, 112, 101, 97, 116, 101, 100]⟩] wx fun e w' => ∃ p' n' cap', e = .returned (.tuple #[.bool a1, .slice p' n' cap']) ∧ n' ≤ 1048577 ∧ SlS w' w2.heap.size p' n' cap' r1 ∧ Below wx.heap.size wx w') := Lib.hid fun wx p n c hS hn => by
                have h := takeWord_any w2.heap.size p n c r ⟨#[114, 101, 112, 101, 97, 116, 101, 100]⟩ wx hS hn
                rw [show (⟨#[114, 101, 112, 101, 97, 116, 101, 100]⟩ : ByteArray).data.toList = repW from rfl, ha1] at h
                simp only at h
                exact h
              have HT2 : Hid (∀ (wx : World) (p : Option Addr) (n c : Nat), SlS wx w2.heap.size p n c r1 → n ≤ 1048577 → Calls Tryd.prog 55 #[.slice p n c, .string ⟨#[112, 97, 99, 107, 101, 100]⟩] wx fun e w' => ∃ p' n' cap', e = .returned (.tuple #[.bool b1, .slice p' n' cap']) ∧ n' ≤ 1048577 ∧ SlS w' w2.heap.size p' n' cap' r2 ∧ Below wx.heap.size wx w') := Lib.hid fun wx p n c hS hn => by
                have h := takeWord_any w2.heap.size p n c r1 ⟨#[112, 97, 99, 107, 101, 100]⟩ wx hS hn
                rw [show (⟨#[112, 97, 99, 107, 101, 100]⟩ : ByteArray).data.toList = packW from rfl, hb1] at h
                simp only at h
                exact h
              have Hpt : Hid (parseT h k (y :: t) = ((nh, 8, a1, b1, x), r2)) := Lib.hid (by
                unfold parseT
                simp only [HK.out, Hnh.out, Hx.out, ha1, hb1])
              clear ha1 hb1 Hx
              refine (HT1.out _ _ _ _ HSr.out hnr).mono ?_
              rintro e w10 ⟨p10, n10, c10, rfl, hn10, hS10, hb10⟩
              have HP10 := Lib.hid ((HPr.out.all hb10).words hn10 hS10)
              clear HPr HSr hnr hS10 hb10 f0 f1 f2 f3 f4 g0 g1 g2 g3 g4 HT1
              obtain ⟨⟨f0, f1, f2, f3, f4⟩, g0, g1, g2, g3, g4⟩ := Box.five HP10.out.2.1
              go_upto_region 11 with fail
              have HP11 : Hid (PSt a w (w10.setCell ⟨gf, 2, none⟩ (.bool a1)) w2.heap.size gf (nh, 8, a1, false, x) (.slice p10 n10 c10) r1) := Lib.hid (HP10.out.set 2 _ _ rfl)
              clear HP10 f0 f1 f2 f3 f4 g0 g1 g2 g3 g4
              generalize w10.setCell ⟨gf, 2, none⟩ (.bool a1) = w11 at HP11 ⊢
              have HS11 : Hid (SlS w11 w2.heap.size p10 n10 c10 r1) := Lib.hid (by
                obtain ⟨_, _, _, _, _, _, p, n, c, e, _, hS⟩ := HP11.out
                injection e with e1 e2 e3
                subst e1 e2 e3
                exact hS)
              go_wp2_with fail
              refine (HT2.out _ _ _ _ HS11.out hn10).mono ?_
              rintro e w12 ⟨p12, n12, c12, rfl, hn12, hS12, hb12⟩
              have HP12 := Lib.hid ((HP11.out.all hb12).words hn12 hS12)
              have hl12 : r2.length = n12 := hS12.1
              clear HP11 HS11 hn10 hS12 hb12 HT2
              obtain ⟨⟨f0, f1, f2, f3, f4⟩, g0, g1, g2, g3, g4⟩ := Box.five HP12.out.2.1
              go_upto_region 12 with fail
              have HP13 : Hid (PSt a w (w12.setCell ⟨gf, 3, none⟩ (.bool b1)) w2.heap.size gf (nh, 8, a1, b1, x) (.slice p12 n12 c12) r2) := Lib.hid (HP12.out.set 3 _ _ rfl)
              clear HP12 f0 f1 f2 f3 f4 g0 g1 g2 g3 g4
              generalize w12.setCell ⟨gf, 3, none⟩ (.bool b1) = w13 at HP13 ⊢
              obtain ⟨⟨f0, f1, f2, f3, f4⟩, g0, g1, g2, g3, g4⟩ := Box.five HP13.out.2.1
              by_cases h0 : r2 = []
              · obtain rfl : n12 = 0 := by rw [← hl12, h0]; rfl
                have HH := Lib.hid (implHasText_any (nh, 8, a1, b1, x))
                by_cases ht : hasText (nh, 8, a1, b1, x)
                · rw [decide_eq_true ht] at HH
                  have Hr : Hid (R = some (nh, 8, a1, b1, x)) := Lib.hid (by rw [← HR.out]; unfold parseW; simp only; rw [Hpt.out]; rw [if_pos ⟨h0, ht⟩])
                  unfold fieldV at HH
                  simp only at HH
                  clear h0 ht Hpt HR hl12
                  go_wp2_with fail
                  refine (HH.out _).mono ?_
                  rintro e w14 ⟨rfl, hb14⟩
                  have HP14 := Lib.hid (HP13.out.all hb14)
                  clear HP13 hb14 f0 f1 f2 f3 f4 g0 g1 g2 g3 g4 HH
                  obtain ⟨⟨f0, f1, f2, f3, f4⟩, g0, g1, g2, g3, g4⟩ := Box.five HP14.out.2.1
                  obtain ⟨⟨c0, c1, c2, c3, c4⟩, k0, k1, k2, k3, k4⟩ := Box.five HP14.out.1
                  go_wp2_with fail
                  refine bodyPost_ret (v := .tuple #[.agg #[.int .i64 nh, .int .i64 8, .bool a1, .bool b1, .int .i64 x], .nilIface]) (by simp [results, Tryd.results31, go_sem, c0, c1, c2, c3, c4]) rfl ?_
                  exact ⟨.inl ⟨_, Hr.out, rfl⟩, (((((HP14.out.2.2.2.2.1.setCell (by simp) _).setCell (by simp) _).setCell (by simp) _).setCell (by simp) _).setCell (by simp) _)⟩
                · rw [decide_eq_false ht] at HH
                  have Hr : Hid (R = none) := Lib.hid (by rw [← HR.out]; unfold parseW; simp only; rw [Hpt.out]; rw [if_neg fun e => ht e.2])
                  unfold fieldV at HH
                  simp only at HH
                  clear h0 ht Hpt HR hl12
                  go_wp2_with fail
                  refine (HH.out _).mono ?_
                  rintro e w14 ⟨rfl, hb14⟩
                  have HP14 := Lib.hid (HP13.out.all hb14)
                  clear HP13 hb14 f0 f1 f2 f3 f4 g0 g1 g2 g3 g4 HH
                  obtain ⟨⟨c0, c1, c2, c3, c4⟩, k0, k1, k2, k3, k4⟩ := Box.five HP14.out.1
                  obtain ⟨e0, e1⟩ := HP14.out.2.2.2.2.2.1
                  unfold sentV at e0
                  go_wp2_with fail
                  go_region
                  all_goals
                    go_wp2_with fail
                    refine bodyPost_ret (v := .tuple #[.agg #[.int .i64 0, .int .i64 0, .bool false, .bool false, .int .i64 0], .iface 178 (.pointer (some a))]) (by simp [results, Tryd.results31, go_sem, c0, c1, c2, c3, c4]) rfl ?_
                    refine ⟨.inr ⟨Hr.out, rfl⟩, ?_⟩
                    first
                      | exact (((((HP14.out.2.2.2.2.1.setCell (by simp) _).setCell (by simp) _).setCell (by simp) _).setCell (by simp) _).setCell (by simp) _).drew
                      | exact (((((HP14.out.2.2.2.2.1.drew.setCell (by simp) _).setCell (by simp) _).setCell (by simp) _).setCell (by simp) _).setCell (by simp) _)
              · have hp12 : 0 < n12 := by rw [← hl12]; exact List.length_pos_iff.2 h0
                have Hr : Hid (R = none) := Lib.hid (by rw [← HR.out]; unfold parseW; simp only; rw [Hpt.out]; rw [if_neg fun e => h0 e.1])
                have hp12i : (0 : Int) < (n12 : Int) := by omega
                clear h0 Hpt HR hl12 f0 f1 f2 f3 f4 g0 g1 g2 g3 g4
                obtain ⟨⟨c0, c1, c2, c3, c4⟩, k0, k1, k2, k3, k4⟩ := Box.five HP13.out.1
                obtain ⟨e0, e1⟩ := HP13.out.2.2.2.2.2.1
                unfold sentV at e0
                go_wp2_with fail
                go_region
                all_goals
                  go_wp2_with fail
                  refine bodyPost_ret (v := .tuple #[.agg #[.int .i64 0, .int .i64 0, .bool false, .bool false, .int .i64 0], .iface 178 (.pointer (some a))]) (by simp [results, Tryd.results31, go_sem, c0, c1, c2, c3, c4]) rfl ?_
                  refine ⟨.inr ⟨Hr.out, rfl⟩, ?_⟩
                  first
                    | exact (((((HP13.out.2.2.2.2.1.setCell (by simp) _).setCell (by simp) _).setCell (by simp) _).setCell (by simp) _).setCell (by simp) _).drew
                    | exact (((((HP13.out.2.2.2.2.1.drew.setCell (by simp) _).setCell (by simp) _).setCell (by simp) _).setCell (by simp) _).setCell (by simp) _)
        · have h8b : (K == 8) = false := eqF h8
          have Hx : Hid (refW K t = (0, t)) := Lib.hid (by unfold refW; rw [if_neg h8])
          have HPr := HP8
          have HSr := HS8
          have hnr := hn8
          clear HP8 HS8 hn8 h8
          obtain ⟨⟨f0, f1, f2, f3, f4⟩, g0, g1, g2, g3, g4⟩ := Box.five HPr.out.2.1
          go_wp2_with fail
          obtain ⟨a1, r1, ha1⟩ : ∃ a1 r1, takeR repW t = (a1, r1) := ⟨_, _, rfl⟩
          obtain ⟨b1, r2, hb1⟩ : ∃ b1 r2, takeR packW r1 = (b1, r2) := ⟨_, _, rfl⟩
          have HT1 : Hid (∀ (wx : World) (p : Option Addr) (n c : Nat), SlS wx w2.heap.size p n c t → n ≤ 1048577 → Calls Tryd.prog 55 #[.slice p n c, .string ⟨#[114, 101, 112, 101, 97, 116, 101, 100]⟩] wx fun e w' => ∃ p' n' cap', e = .returned (.tuple #[.bool a1, .slice p' n' cap']) ∧ n' ≤ 1048577 ∧ SlS w' w2.heap.size p' n' cap' r1 ∧ Below wx.heap.size wx w') := Lib.hid fun wx p n c hS hn => by
            have h := takeWord_any w2.heap.size p n c t ⟨#[114, 101, 112, 101, 97, 116, 101, 100]⟩ wx hS hn
            rw [show (⟨#[114, 101, 112, 101, 97, 116, 101, 100]⟩ : ByteArray).data.toList = repW from rfl, ha1] at h
            simp only at h
            exact h
          have HT2 : Hid (∀ (wx : World) (p : Option Addr) (n c : Nat), SlS wx w2.heap.size p n c r1 → n ≤ 1048577 → Calls Tryd.prog 55 #[.slice p n c, .string ⟨#[112, 97, 99, 107, 101, 100]⟩] wx fun e w' => ∃ p' n' cap', e = .returned (.tuple #[.bool b1, .slice p' n' cap']) ∧ n' ≤ 1048577 ∧ SlS w' w2.heap.size p' n' cap' r2 ∧ Below wx.heap.size wx w') := Lib.hid fun wx p n c hS hn => by
            have h := takeWord_any w2.heap.size p n c r1 ⟨#[112, 97, 99, 107, 101, 100]⟩ wx hS hn
            rw [show (⟨#[112, 97, 99, 107, 101, 100]⟩ : ByteArray).data.toList = packW from rfl, hb1] at h
            simp only at h
            exact h
          have Hpt : Hid (parseT h k t = ((nh, K, a1, b1, 0), r2)) := Lib.hid (by
            unfold parseT
            simp only [HK.out, Hnh.out, Hx.out, ha1, hb1])
          clear ha1 hb1 Hx
          refine (HT1.out _ _ _ _ HSr.out hnr).mono ?_
          rintro e w10 ⟨p10, n10, c10, rfl, hn10, hS10, hb10⟩
          have HP10 := Lib.hid ((HPr.out.all hb10).words hn10 hS10)
          clear HPr HSr hnr hS10 hb10 f0 f1 f2 f3 f4 g0 g1 g2 g3 g4 HT1
          obtain ⟨⟨f0, f1, f2, f3, f4⟩, g0, g1, g2, g3, g4⟩ := Box.five HP10.out.2.1
          go_upto_region 11 with fail
          have HP11 : Hid (PSt a w (w10.setCell ⟨gf, 2, none⟩ (.bool a1)) w2.heap.size gf (nh, K, a1, false, 0) (.slice p10 n10 c10) r1) := Lib.hid (HP10.out.set 2 _ _ rfl)
          clear HP10 f0 f1 f2 f3 f4 g0 g1 g2 g3 g4
          generalize w10.setCell ⟨gf, 2, none⟩ (.bool a1) = w11 at HP11 ⊢
          have HS11 : Hid (SlS w11 w2.heap.size p10 n10 c10 r1) := Lib.hid (by
            obtain ⟨_, _, _, _, _, _, p, n, c, e, _, hS⟩ := HP11.out
            injection e with e1 e2 e3
            subst e1 e2 e3
            exact hS)
          go_wp2_with fail
          refine (HT2.out _ _ _ _ HS11.out hn10).mono ?_
          rintro e w12 ⟨p12, n12, c12, rfl, hn12, hS12, hb12⟩
          have HP12 := Lib.hid ((HP11.out.all hb12).words hn12 hS12)
          have hl12 : r2.length = n12 := hS12.1
          clear HP11 HS11 hn10 hS12 hb12 HT2
          obtain ⟨⟨f0, f1, f2, f3, f4⟩, g0, g1, g2, g3, g4⟩ := Box.five HP12.out.2.1
          go_upto_region 12 with fail
          have HP13 : Hid (PSt a w (w12.setCell ⟨gf, 3, none⟩ (.bool b1)) w2.heap.size gf (nh, K, a1, b1, 0) (.slice p12 n12 c12) r2) := Lib.hid (HP12.out.set 3 _ _ rfl)
          clear HP12 f0 f1 f2 f3 f4 g0 g1 g2 g3 g4
          generalize w12.setCell ⟨gf, 3, none⟩ (.bool b1) = w13 at HP13 ⊢
          obtain ⟨⟨f0, f1, f2, f3, f4⟩, g0, g1, g2, g3, g4⟩ := Box.five HP13.out.2.1
          by_cases h0 : r2 = []
          · obtain rfl : n12 = 0 := by rw [← hl12, h0]; rfl
            have HH := Lib.hid (implHasText_any (nh, K, a1, b1, 0))
            by_cases ht : hasText (nh, K, a1, b1, 0)
            · rw [decide_eq_true ht] at HH
              have Hr : Hid (R = some (nh, K, a1, b1, 0)) := Lib.hid (by rw [← HR.out]; unfold parseW; simp only; rw [Hpt.out]; rw [if_pos ⟨h0, ht⟩])
              unfold fieldV at HH
              simp only at HH
              clear h0 ht Hpt HR hl12
              go_wp2_with fail
              refine (HH.out _).mono ?_
              rintro e w14 ⟨rfl, hb14⟩
              have HP14 := Lib.hid (HP13.out.all hb14)
              clear HP13 hb14 f0 f1 f2 f3 f4 g0 g1 g2 g3 g4 HH
              obtain ⟨⟨f0, f1, f2, f3, f4⟩, g0, g1, g2, g3, g4⟩ := Box.five HP14.out.2.1
              obtain ⟨⟨c0, c1, c2, c3, c4⟩, k0, k1, k2, k3, k4⟩ := Box.five HP14.out.1
              go_wp2_with fail
              refine bodyPost_ret (v := .tuple #[.agg #[.int .i64 nh, .int .i64 K, .bool a1, .bool b1, .int .i64 0], .nilIface]) (by simp [results, Tryd.results31, go_sem, c0, c1, c2, c3, c4]) rfl ?_
              exact ⟨.inl ⟨_, Hr.out, rfl⟩, (((((HP14.out.2.2.2.2.1.setCell (by simp) _).setCell (by simp) _).setCell (by simp) _).setCell (by simp) _).setCell (by simp) _)⟩
            · rw [decide_eq_false ht] at HH
              have Hr : Hid (R = none) := Lib.hid (by rw [← HR.out]; unfold parseW; simp only; rw [Hpt.out]; rw [if_neg fun e => ht e.2])
              unfold fieldV at HH
              simp only at HH
              clear h0 ht Hpt HR hl12
              go_wp2_with fail
              refine (HH.out _).mono ?_
              rintro e w14 ⟨rfl, hb14⟩
              have HP14 := Lib.hid (HP13.out.all hb14)
              clear HP13 hb14 f0 f1 f2 f3 f4 g0 g1 g2 g3 g4 HH
              obtain ⟨⟨c0, c1, c2, c3, c4⟩, k0, k1, k2, k3, k4⟩ := Box.five HP14.out.1
              obtain ⟨e0, e1⟩ := HP14.out.2.2.2.2.2.1
              unfold sentV at e0
              go_wp2_with fail
              go_region
              all_goals
                go_wp2_with fail
                refine bodyPost_ret (v := .tuple #[.agg #[.int .i64 0, .int .i64 0, .bool false, .bool false, .int .i64 0], .iface 178 (.pointer (some a))]) (by simp [results, Tryd.results31, go_sem, c0, c1, c2, c3, c4]) rfl ?_
                refine ⟨.inr ⟨Hr.out, rfl⟩, ?_⟩
                first
                  | exact (((((HP14.out.2.2.2.2.1.setCell (by simp) _).setCell (by simp) _).setCell (by simp) _).setCell (by simp) _).setCell (by simp) _).drew
                  | exact (((((HP14.out.2.2.2.2.1.drew.setCell (by simp) _).setCell (by simp) _).setCell (by simp) _).setCell (by simp) _).setCell (by simp) _)
          · have hp12 : 0 < n12 := by rw [← hl12]; exact List.length_pos_iff.2 h0
            have Hr : Hid (R = none) := Lib.hid (by rw [← HR.out]; unfold parseW; simp only; rw [Hpt.out]; rw [if_neg fun e => h0 e.1])
            have hp12i : (0 : Int) < (n12 : Int) := by omega
            clear h0 Hpt HR hl12 f0 f1 f2 f3 f4 g0 g1 g2 g3 g4
            obtain ⟨⟨c0, c1, c2, c3, c4⟩, k0, k1, k2, k3, k4⟩ := Box.five HP13.out.1
            obtain ⟨e0, e1⟩ := HP13.out.2.2.2.2.2.1
            unfold sentV at e0
            go_wp2_with fail
            go_region
            all_goals
              go_wp2_with fail
              refine bodyPost_ret (v := .tuple #[.agg #[.int .i64 0, .int .i64 0, .bool false, .bool false, .int .i64 0], .iface 178 (.pointer (some a))]) (by simp [results, Tryd.results31, go_sem, c0, c1, c2, c3, c4]) rfl ?_
              refine ⟨.inr ⟨Hr.out, rfl⟩, ?_⟩
              first
                | exact (((((HP13.out.2.2.2.2.1.setCell (by simp) _).setCell (by simp) _).setCell (by simp) _).setCell (by simp) _).setCell (by simp) _).drew
                | exact (((((HP13.out.2.2.2.2.1.drew.setCell (by simp) _).setCell (by simp) _).setCell (by simp) _).setCell (by simp) _).setCell (by simp) _)
end Go.Proofs.YtcbohfncckpolaaDoor.Num
