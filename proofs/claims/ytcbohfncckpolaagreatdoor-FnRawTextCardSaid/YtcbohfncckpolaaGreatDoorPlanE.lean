/-
  Several texts in one: ErrTextOf ParseFieldsI ParseMsgI LaidNew LongOf ReadFieldS ReadRawS HasI CodesI FieldI CheckImpl ParseRawI ReadRawI ReadRawOf.
-/
import Derived.Test.YtcbohfncckpolaaGreatDoorPlanD
import Derived.Test.YtcbohfncckpolaaGreatDoorRows
import Derived.Stop.LaidErr
import Derived.LaidLaws
import Derived.Test.YtcbohfncckpolaaGreatDoorShelf
import Derived.Test.YtcbohfncckpolaaGreatDoorZone
import Derived.Test.YtcbohfncckpolaaGreatDoorNumWalk
import Derived.Test.YtcbohfncckpolaaGreatDoorLong
import Derived.Test.YtcbohfncckpolaaGreatDoorFieldTextS
import Derived.Test.YtcbohfncckpolaaGreatDoorFieldTextI
import Derived.Test.YtcbohfncckpolaaGreatDoorParts
import Derived.Test.YtcbohfncckpolaaGreatDoorRound
import Derived.Test.YtcbohfncckpolaaGreatDoorCheck
import Derived.Test.YtcbohfncckpolaaGreatDoorSmallI
import Derived.Test.YtcbohfncckpolaaGreatDoorCodes
import Derived.Test.YtcbohfncckpolaaGreatDoorFirst
import Derived.Deep.RegionWith

/-
  What the listed condition says of the program's sentinel: it lies in its variable.
-/
namespace Go.Proofs.YtcbohfncckpolaaGreatDoor.Num
open Go.RowKit Go.Proofs Go
theorem tx_global : Tryz.prog.globalNamed "loop.example/g00498/impl.errText" = some 0 := by kernel_rfl
theorem tx_type : (Tryz.prog.globals[0]?).map (fun (x : Go.Global) => x.type) = some 46 := by kernel_rfl
theorem tx_star : "*" ++ "errors.errorString" = "*errors.errorString" := by decide
theorem tx_row (u : TypeId) (h : Tryz.prog.typeName? 3 u = some "*errors.errorString") : u = 171 :=
  typeName_ptr_named (nm := "errors.errorString") (by rw [tx_star]; kernel_rfl) (by kernel_rfl) (by decide) u (by rw [tx_star]; exact h)
theorem tx_c1 : Tryz.prog.cellsOf 194 = 1 := by kernel_rfl
theorem tx_c2 : Tryz.prog.cellsOf 9 = 1 := by kernel_rfl
theorem errText_of {W : World} {d : DataW Unit} {text : List UInt8} {r : List (String × DataW Unit)} (h : laidMet Tryz.prog (("loop.example/g00498/impl.errText", d) :: r) W) (hd : d = .iface "*errors.errorString" (.ptr (.agg [.lit (.string text)])) := by rfl) : ∃ a, ErrText W a := by
  subst hd
  obtain ⟨a, s, hv, _⟩ := laid_sentinel h tx_global tx_type Tryz.underlying46 tx_row Tryz.underlying171 Tryz.underlying194 rfl rfl Tryz.underlying9 tx_c1 tx_c2
  have hc := World.var?_cell tx_global hv 0
  refine ⟨a, by simpa [sentV] using hc, ?_⟩
  unfold World.var? at hv
  simp only [tx_global, Option.bind_some] at hv
  rcases Nat.lt_or_ge 0 W.heap.size with h' | h'
  · exact h'
  · simp [Array.getElem?_eq_none h'] at hv
end Go.Proofs.YtcbohfncckpolaaGreatDoor.Num

/-
  The walk of the program's parseFields: the fields of the pieces, laid anew, or nil and the sentinel; only new memory is written.
-/
namespace Go.Proofs.YtcbohfncckpolaaGreatDoor.Num
open Go.RowKit Go.Proofs Go
set_option linter.unusedVariables false
set_option linter.unusedSimpArgs false

theorem infoFP : (Tryz.prog.info? 58).map (fun i => (i.zero, i.size, i.bytes)) = some (some (.agg #[.int .i64 0, .int .i64 0, .bool false, .bool false, .int .i64 0]), 5, 32) := by kernel_rfl
/-- Fields in a slice of the call's own, or none at all. -/
def FNew (w : World) (B : Nat) (u : Value) (l : List RF) : Prop :=
  (u = .slice none 0 0 ∧ l = []) ∨ ∃ g cap, u = .slice (some ⟨g, 0, none⟩) l.length cap ∧ B ≤ g ∧ Fill w g (l.length * 5) ∧ FieldsAt w (· = g) u l
theorem frowPut {w : World} {g n k : Nat} {l : List RF} (h : FRow w g n k l) (hk : k < n) (hl : k < l.length) {A1 A2 A5 : Int} {A3 A4 : Bool} (e : l[k] = (A1, A2, A3, A4, A5)) :
    FRow (((((w.setCell ⟨g, k * 5, none⟩ (.int .i64 A1)).setCell ⟨g, k * 5 + 1, none⟩ (.int .i64 A2)).setCell ⟨g, k * 5 + 2, none⟩ (.bool A3)).setCell ⟨g, k * 5 + 3, none⟩ (.bool A4)).setCell ⟨g, k * 5 + 4, none⟩ (.int .i64 A5)) g n (k + 1) l := by
  have := h.put hk hl
  rw [e] at this
  exact this
theorem mapM_all {f : List UInt8 → Option RF} : ∀ {l : List (List UInt8)} {r : List RF}, l.length = r.length → (∀ i (h : i < l.length) (h' : i < r.length), f l[i] = some r[i]) → l.mapM f = some r
  | [], [], _, _ => rfl
  | [], y :: r, h, _ => by simp at h
  | x :: l, [], h, _ => by simp at h
  | x :: l, y :: r, h, hf => by
    rw [List.mapM_cons, show f x = some y from hf 0 (by simp) (by simp), mapM_all (l := l) (r := r) (by simpa using h) fun i hi hi' => hf (i + 1) (by simpa using hi) (by simpa using hi')]
    rfl
theorem mapM_none {α β : Type} {f : α → Option β} : ∀ {l : List α} (i : Nat) (h : i < l.length), f l[i] = none → l.mapM f = none
  | [], i, h, _ => by simp at h
  | x :: l, 0, h, e => by
    rw [List.mapM_cons, show f x = none from e]; rfl
  | x :: l, i + 1, h, e => by
    rw [List.mapM_cons, mapM_none i (by simpa using h) (by simpa using e)]
    cases f x <;> rfl
theorem toList_emp {s : ByteArray} (h : s.data.toList = []) : s = ⟨#[]⟩ := by
  rcases s with ⟨⟨l⟩⟩
  simp at h
  rw [h]
set_option maxHeartbeats 4000000 in
set_option maxRecDepth 100000 in
theorem implParseFields_any (s : ByteArray) (a : Addr) (w : World) (hs : s.size ≤ 1048576) (hsh : w.ShapedOpen Tryz.prog) (hE : ErrText w a) :
    Calls Tryz.prog 71 #[.string s] w fun e w' => ((∃ l u, parseFs s.data.toList = some l ∧ e = .returned (.tuple #[u, .nilIface]) ∧ FNew w' w.heap.size u l) ∨ (parseFs s.data.toList = none ∧ e = .returned (.tuple #[.slice none 0 0, sentV a]))) ∧ Below w.heap.size w w' := by
  by_cases h0 : s.data.toList = []
  · obtain rfl := toList_emp h0
    have hR : Hid (parseFs (ByteArray.mk #[]).data.toList = some []) := Lib.hid rfl
    clear hsh hE h0
    go_enter Tryz.func71, Tryz.ntmps71
    go_wp2_with fail
    go_ret2
    exact ⟨.inl ⟨[], hR.out, .slice none 0 0, rfl, .inl ⟨rfl, rfl⟩⟩, Below.refl _ _⟩
  · obtain ⟨i0, hi, hz0, hz1, hz2⟩ := info_partsW infoFP
    have hplen := partsF_length 44 s.data.toList
    have hpne := partsF_ne 44 s.data.toList
    have hpmem := partsF_mem 44 s.data.toList
    have hsl : s.data.toList.length = s.size := by simp
    have he : s.toList.isEmpty = false := by rw [ByteArray.toList_eq]; simpa using h0
    have HP := Lib.hid (implParts_any s 44 w hs hsh)
    rw [show ((44 : UInt8).toNat : Int) = 44 from rfl] at HP
    have HPF : Hid (∀ (t : ByteArray) (wx : World), t.size ≤ 1048576 → Below w.heap.size w wx → Calls Tryz.prog 91 #[.string t] wx fun e w' => ((∃ f, readF t.data.toList = some f ∧ e = .returned (.tuple #[fieldV f, .nilIface])) ∨ (readF t.data.toList = none ∧ e = .returned (.tuple #[fieldV zeroF, sentV a]))) ∧ Below wx.heap.size wx w') := Lib.hid fun t wx ht hb => implParse_any t a wx ht (shaped_below hsh hb) (hE.below hb)
    have HR : Hid (parseFs s.data.toList = (partsF 44 s.data.toList).mapM readF) := Lib.hid (by unfold parseFs; rw [if_neg h0])
    obtain ⟨R, hR⟩ : ∃ R, parseFs s.data.toList = R := ⟨_, rfl⟩
    rw [hR]
    rw [hR] at HR
    generalize hws : partsF 44 s.data.toList = ws at hplen hpne hpmem HP HR
    have Hws := Lib.hid hws
    clear hws hR hsh hE h0
    go_enter Tryz.func71, Tryz.ntmps71
    go_wp2_with fail
    refine HP.out.mono ?_
    rintro e w2 ⟨v, P, rfl, hP, hown, hb2⟩
    rw [Hws.out] at hP
    obtain ⟨g, cap, rfl, hg, hS⟩ := slS_of (w := w) hown hP hpne
    have hn : ws.length ≤ 1048577 := by omega
    have Hmem : Hid (∀ k (hk : k < ws.length), ws[k].length ≤ 1048576) := Lib.hid fun k hk => by have := hpmem _ (List.getElem_mem hk); omega
    have HS := Lib.hid hS
    have hgz : g < w2.heap.size := by
      obtain ⟨b, o, hp, hlt, _⟩ := HS.out.cells (List.length_pos_iff.2 hpne)
      injection hp with hp
      injection hp with h1
      rw [h1]; exact hlt
    clear hown hP hS HP hplen hpmem hsl Hws he
    obtain ⟨L, hL⟩ : ∃ L : List RF, L = ws.map fun t => (readF t).getD zeroF := ⟨_, rfl⟩
    have hLl : L.length = ws.length := by rw [hL]; simp
    have HLk : Hid (∀ k (hk : k < ws.length) (hk' : k < L.length), ∀ f, readF ws[k] = some f → L[k] = f) := Lib.hid fun k hk hk' f hf => by
      subst hL
      rw [List.getElem_map, hf]; rfl
    clear hL
    generalize hN : ws.length = N at hn hLl HS
    have HN := Lib.hid hN
    have hNp : 0 < N := by rw [← hN]; exact List.length_pos_iff.2 hpne
    clear hN hpne
    go_wp2_with (refine wpList_make_full _ rfl _ _ 40 rfl w2.heap.size 58 i0 _ 5 Tryz.underlying40 hi hz0 hz1 .i64 .i64 _ _ N rfl rfl rfl rfl (by rw [hz2]; omega) (by unfold maxLen; omega) (Nat.le_refl _) ?_; intro w3 hown3 hgr)
    have hrow : FRow w3 w2.heap.size N 0 L := FRow.start hown3
    have hb3 : Below w2.heap.size w2 w3 := (Below.refl _ _).grown hgr (Nat.le_refl _) (fun k hk => by cases hk)
    have hl3 := hb2.trans (hb3.mono hb2.size)
    have HS3 := Lib.hid (HS.out.below hb3)
    have hw2 := hb2.size
    clear hown3 hgr hb2 hb3 HS hi hz0 hz1 hz2
    go_loopw [19] (fun y wr => ∃ k : Nat, k ≤ N ∧ y = .int .i64 k ∧ Hid (∀ j (hj : j < ws.length), j < k → ∀ hj' : j < L.length, readF ws[j] = some L[j]) ∧ Hid (FRow wr w2.heap.size N k L) ∧ Hid (SlS wr w2.heap.size (some ⟨g, 0, none⟩) N cap ws) ∧ Below w.heap.size w wr) (fun y _ => N - (intOf y).toNat)
    case atStart => exact ⟨0, by omega, rfl, Lib.hid fun j hj h => by omega, Lib.hid hrow, HS3, hl3⟩
    case round =>
      clear hrow HS3 hl3
      obtain ⟨k, hk, rfl, Hsome, hrow, HS, hl⟩ := hrel
      by_cases hkl : k < N
      · have hkli : (k : Int) < (N : Int) := by omega
        have hkw : k < ws.length := by rw [HN.out]; exact hkl
        have hkL : k < L.length := by omega
        obtain ⟨b, o, hp, hblt, hcells⟩ := HS.out.cells (by omega)
        obtain ⟨rfl, rfl⟩ : g = b ∧ 0 = o := by injection hp with hp; injection hp with h1 h2; exact ⟨h1, h2⟩
        have q0 := hcells k hkw
        rw [Nat.zero_add] at q0
        have hkm := Hmem.out k hkw
        have HLf := Lib.hid (HLk.out k hkw hkL)
        have Hnext : Hid (∀ f, readF ws[k] = some f → ∀ j (hj : j < ws.length), j < k + 1 → ∀ hj' : j < L.length, readF ws[j] = some L[j]) := Lib.hid fun f hf j hj hjk hj' => by
          by_cases e : j = k
          · subst e; rw [HLf.out f hf]; exact hf
          · exact Hsome.out j hj (by omega) hj'
        have Hbad : Hid (readF ws[k] = none → ws.mapM readF = none) := Lib.hid (mapM_none k hkw)
        have Hput : Hid (∀ (wx : World) (A1 A2 : Int) (A3 A4 : Bool) (A5 : Int), FRow wx w2.heap.size N k L → L[k] = (A1, A2, A3, A4, A5) → FRow (((((wx.setCell ⟨w2.heap.size, k * 5, none⟩ (.int .i64 A1)).setCell ⟨w2.heap.size, k * 5 + 1, none⟩ (.int .i64 A2)).setCell ⟨w2.heap.size, k * 5 + 2, none⟩ (.bool A3)).setCell ⟨w2.heap.size, k * 5 + 3, none⟩ (.bool A4)).setCell ⟨w2.heap.size, k * 5 + 4, none⟩ (.int .i64 A5)) w2.heap.size N (k + 1) L) := Lib.hid fun wx A1 A2 A3 A4 A5 h e => frowPut h hkl hkL e
        generalize L[k] = Lk at HLf Hput
        generalize ws[k] = W at q0 hkm HLf Hnext Hbad
        obtain ⟨sW, esW⟩ : ∃ S : ByteArray, S = ⟨W.toArray⟩ := ⟨_, rfl⟩
        rw [← esW] at q0
        have HW : Hid (sW.data.toList = W) := Lib.hid (by rw [esW])
        have HPk := Lib.hid (HPF.out sW)
        have hsz : sW.size ≤ 1048576 := by rw [esW]; simpa [ByteArray.size] using hkm
        clear hcells hp esW hkm
        go_wp2_with fail
        refine (HPk.out _ hsz hl).mono ?_
        rintro e w6 ⟨hcase, hb6⟩
        rw [HW.out] at hcase
        have hl6 := hl.trans (hb6.mono hl.size)
        have hwz := Nat.lt_of_lt_of_le hrow.out.1.1 hb6.size
        have hrow6 := Lib.hid (hrow.out.below hb6 hrow.out.1.1)
        have HS6 := Lib.hid (HS.out.below (hb6.mono (Nat.le_of_lt hrow.out.1.1)))
        clear hb6 hrow HS hl q0 HPk
        rcases hcase with ⟨f, hf, rfl⟩ | ⟨hf, rfl⟩
        · have HLe := Lib.hid (HLf.out f hf)
          have Hn2 := Lib.hid (Hnext.out f hf)
          obtain ⟨A1, A2, A3, A4, A5⟩ := f
          have HP6 : Hid (∀ wx, FRow wx w2.heap.size N k L → FRow (((((wx.setCell ⟨w2.heap.size, k * 5, none⟩ (.int .i64 A1)).setCell ⟨w2.heap.size, k * 5 + 1, none⟩ (.int .i64 A2)).setCell ⟨w2.heap.size, k * 5 + 2, none⟩ (.bool A3)).setCell ⟨w2.heap.size, k * 5 + 3, none⟩ (.bool A4)).setCell ⟨w2.heap.size, k * 5 + 4, none⟩ (.int .i64 A5)) w2.heap.size N (k + 1) L) := Lib.hid fun wx h => Hput.out wx A1 A2 A3 A4 A5 h HLe.out
          unfold fieldV
          simp only
          clear hf HLf Hnext Hbad Hput
          have hb7 : Below w6.heap.size w6 (w6.alloc (.cells #[.int .i64 A1, .int .i64 A2, .bool A3, .bool A4, .int .i64 A5] 58)) := (Below.refl _ _).alloc (Nat.le_refl _) _
          have hbf := Box.fresh w6 #[.int .i64 A1, .int .i64 A2, .bool A3, .bool A4, .int .i64 A5] 58
          have hrow7 := Lib.hid (hrow6.out.below hb7 hwz)
          have HS7 := Lib.hid (HS6.out.below (hb7.mono (Nat.le_of_lt hwz)))
          have hl7 := hl6.trans (hb7.mono hl6.size)
          clear hb7 hrow6 HS6 hl6
          go_upto_region 9 with fail
          generalize (w6.alloc (.cells #[.int .i64 A1, .int .i64 A2, .bool A3, .bool A4, .int .i64 A5] 58)) = w7 at hbf hrow7 HS7 hl7 ⊢
          obtain ⟨y0, y1, y2, y3, y4⟩ := Box.five' hbf
          obtain ⟨v0, v1, v2, v3, v4, t0, t1, t2, t3, t4, z0, z1, z2, z3, z4⟩ := hrow7.out.1.slots5 hkl
          clear hbf
          go_wp2_with fail
          go_roundw
          case rel => exact ⟨k + 1, by omega, by go_num, Hn2, Lib.hid (HP6.out _ hrow7.out), Lib.hid (((((HS7.out.set (by simp) _).set (by simp) _).set (by simp) _).set (by simp) _).set (by simp) _), ((((hl7.setCell (by simpa using hw2) _).setCell (by simpa using hw2) _).setCell (by simpa using hw2) _).setCell (by simpa using hw2) _).setCell (by simpa using hw2) _⟩
          case measure => simp [intOf]; omega
        · have Hr : Hid (R = none) := Lib.hid (by rw [HR.out]; exact Hbad.out hf)
          unfold fieldV zeroF sentV
          simp only
          clear hf HLf Hnext Hbad Hput
          go_wp2_with fail
          go_ret2
          exact ⟨.inr ⟨Hr.out, rfl⟩, hl6.alloc hl6.size _⟩
      · have hge : (N : Int) ≤ (k : Int) := by omega
        have hend : decide (k < N) = false := decide_eq_false hkl
        obtain rfl : k = N := by omega
        have Hr : Hid (R = some L) := Lib.hid (by rw [HR.out]; exact mapM_all (by rw [HN.out, hLl]) fun i hi hi' => Hsome.out i hi (by rw [← HN.out]; exact hi) hi')
        have hfr : FRow wr w2.heap.size L.length L.length L := by rw [hLl]; exact hrow.out
        have Hfin : Hid (FNew wr w.heap.size (.slice (some ⟨w2.heap.size, 0, none⟩) k k) L) := Lib.hid (.inr ⟨w2.heap.size, k, by rw [hLl], hw2, hfr.1, by
          have := hfr.done k (by omega)
          rwa [hLl] at this⟩)
        clear hfr
        go_wp2_with fail
        go_ret2
        exact ⟨.inl ⟨L, _, Hr.out, rfl, Hfin.out⟩, hl⟩
end Go.Proofs.YtcbohfncckpolaaGreatDoor.Num

/-
  The walk of the program's parseMsg: the message of a piece, its fields laid anew, or the zero message and the sentinel; only new memory is written.
-/
namespace Go.Proofs.YtcbohfncckpolaaGreatDoor.Num
open Go.RowKit Go.Proofs Go
set_option linter.unusedVariables false
set_option linter.unusedSimpArgs false

theorem parseM_cut (s : List UInt8) : parseM s = if (Lib.cut s [58]).2.2 = true ∧ (parse 999999999 (Lib.cut s [58]).1).2 = true then (parseFs (Lib.cut s [58]).2.1).map fun l => (((parse 999999999 (Lib.cut s [58]).1).1 : Int), l) else none := by
  have hi := Go.Lib.index_one s 58
  have hge := Go.Lib.indexByte_ge s 58
  by_cases hm : Go.Lib.indexByte s 58 = -1
  · have hc : Lib.cut s [58] = (s, [], false) := by
      unfold Lib.cut
      rw [hi, hm, if_neg (by omega)]
    rw [hc, if_neg (by simp)]
    unfold parseM
    rw [← split_parts, split_miss hm]
  · obtain ⟨i, e⟩ := Int.eq_ofNat_of_zero_le (show 0 ≤ Go.Lib.indexByte s 58 by omega)
    have hc : Lib.cut s [58] = (s.take i, s.drop (i + 1), true) := by
      unfold Lib.cut
      rw [hi, e, if_pos (by omega)]
      simp
    obtain ⟨p, q, e2, j⟩ := parts_join 58 (s.drop (i + 1))
    rw [hc]
    unfold parseM
    rw [← split_parts, split_hit e, split_parts, e2]
    simp only [j, true_and]
/-- What parseMsg gives. -/
def PMsg (w : World) (R : Option RM) (a : Addr) (e : Ending) (w' : World) : Prop :=
  (∃ i l u, R = some (i, l) ∧ e = .returned (.tuple #[.agg #[.int .i64 i, u], .nilIface]) ∧ FNew w' w.heap.size u l) ∨ (R = none ∧ e = .returned (.tuple #[.agg #[.int .i64 0, .slice none 0 0], sentV a]))
theorem FNew.below {w w' : World} {B : Nat} {u : Value} {l : List RF} (h : FNew w B u l) (hb : Below w.heap.size w w') : FNew w' B u l := by
  rcases h with h | ⟨g, cap, h1, h2, h3, h4⟩
  · exact .inl h
  · exact .inr ⟨g, cap, h1, h2, h3.below hb h3.1, h4.keep (.of_below hb fun b e => by rw [show b = g from e]; exact h3.1) fun _ h => h⟩
theorem FNew.mono {w : World} {A B : Nat} {u : Value} {l : List RF} (h : FNew w B u l) (hA : A ≤ B) : FNew w A u l := by
  rcases h with h | ⟨g, cap, h1, h2, h3⟩
  · exact .inl h
  · exact .inr ⟨g, cap, h1, by omega, h3⟩
theorem FNew.off {w : World} {B : Nat} {u : Value} {l : List RF} (h : FNew w B u l) {p : Addr} (hp : p.block < B) (v : Value) : FNew (w.setCell p v) B u l := by
  rcases h with h | ⟨g, cap, h1, h2, h3, h4⟩
  · exact .inl h
  · exact .inr ⟨g, cap, h1, h2, h3.off (by omega) v, h4.keep (.of_set _ fun e => by rw [show p.block = g from e] at hp; omega) fun _ h => h⟩
theorem FNew.len {w : World} {B : Nat} {u : Value} {l : List RF} (h : FNew w B u l) : ∃ p cap, u = .slice p l.length cap := by
  rcases h with ⟨rfl, rfl⟩ | ⟨g, cap, rfl, _⟩
  · exact ⟨none, 0, rfl⟩
  · exact ⟨_, _, rfl⟩
set_option maxHeartbeats 4000000 in
set_option maxRecDepth 100000 in
theorem implParseMsg_any (s : ByteArray) (a : Addr) (w : World) (hs : s.size ≤ 1048576) (hsh : w.ShapedOpen Tryz.prog) (hE : ErrText w a) :
    Calls Tryz.prog 45 #[.string s] w fun e w' => PMsg w (parseM s.data.toList) a e w' ∧ Below w.heap.size w w' := by
  obtain ⟨R, hR⟩ : ∃ R, parseM s.data.toList = R := ⟨_, rfl⟩
  rw [hR]
  have HR : Hid (R = _) := Lib.hid (hR.symm.trans (parseM_cut _))
  clear hR
  have hb1 : Below w.heap.size w (w.alloc (.cells #[.int .i64 0, .slice none 0 0] 42)) := (Below.refl _ _).alloc (Nat.le_refl _) _
  have hx1 := Box.fresh w #[.int .i64 0, .slice none 0 0] 42
  have hlen : (Lib.cut s.data.toList [58]).1.length ≤ s.data.toList.length ∧ (Lib.cut s.data.toList [58]).2.1.length ≤ s.data.toList.length := by
    unfold Lib.cut
    split <;> simp <;> omega
  have hsl : s.data.toList.length = s.size := by simp
  have HC := Lib.hid (Tryz.strings_Cut_shaped s ⟨#[58]⟩ (w.alloc (.cells #[.int .i64 0, .slice none 0 0] 42)) (shaped_below hsh hb1) (by omega))
  rw [show (ByteArray.mk #[58]).data.toList = [58] from rfl] at HC
  generalize Lib.cut s.data.toList [58] = C at HR HC hlen
  obtain ⟨cw, cr, cf⟩ := C
  simp only at HR HC hlen
  obtain ⟨sw, hsw⟩ : ∃ S : ByteArray, S = ⟨cw.toArray⟩ := ⟨_, rfl⟩
  obtain ⟨sr, hsr⟩ : ∃ S : ByteArray, S = ⟨cr.toArray⟩ := ⟨_, rfl⟩
  rw [← hsw, ← hsr] at HC
  have Hsw : Hid (sw.data.toList = cw) := Lib.hid (by rw [hsw])
  have Hsr : Hid (sr.data.toList = cr) := Lib.hid (by rw [hsr])
  have hswz : sw.size ≤ 1048576 := by have : sw.size = cw.length := by rw [hsw]; simp [ByteArray.size]
                                      omega
  have hsrz : sr.size ≤ 1048576 := by have : sr.size = cr.length := by rw [hsr]; simp [ByteArray.size]
                                      omega
  clear hsw hsr hlen hsl
  obtain ⟨n, hn⟩ : ∃ n : Int, ((parse 999999999 cw).1 : Int) = n := ⟨_, rfl⟩
  obtain ⟨b, hb⟩ : ∃ b, (parse 999999999 cw).2 = b := ⟨_, rfl⟩
  rw [hn, hb] at HR
  have HNum : Hid (∀ wx, Calls Tryz.prog 70 #[.string sw] wx fun e w' => e = .returned (.tuple #[.int .i64 n, .bool b]) ∧ Below wx.heap.size wx w') := Lib.hid fun wx => by
    have h := number_any sw wx (by omega)
    rw [Hsw.out, hn, hb] at h
    exact h
  have HPF : Hid (∀ wx, Below w.heap.size w wx → Calls Tryz.prog 71 #[.string sr] wx fun e w' => ((∃ l u, parseFs cr = some l ∧ e = .returned (.tuple #[u, .nilIface]) ∧ FNew w' wx.heap.size u l) ∨ (parseFs cr = none ∧ e = .returned (.tuple #[.slice none 0 0, sentV a]))) ∧ Below wx.heap.size wx w') := Lib.hid fun wx hbx => by
    have h := implParseFields_any sr a wx hsrz (shaped_below hsh hbx) (hE.below hbx)
    rw [Hsr.out] at h
    exact h
  clear hn hb Hsw Hsr hswz hsrz hsh
  have hz0 : 0 < w.heap.size := Nat.lt_of_le_of_lt (Nat.zero_le _) hE.2
  have hne1 : ¬ ((0 : Nat) = w.heap.size) := by omega
  have hne2 : ¬ (w.heap.size = 0) := by omega
  go_enter Tryz.func45, Tryz.ntmps45
  go_wp2_with fail
  generalize w.alloc (.cells #[.int .i64 0, .slice none 0 0] 42) = w1 at hb1 hx1 HC ⊢
  refine HC.out.mono ?_
  rintro e w2 ⟨rfl, k2, rfl⟩
  have hl2 : Below w.heap.size w (w1.drewN k2) := ⟨hb1.os, hb1.tape, hb1.output, hb1.size, hb1.block⟩
  have hx2 : Box (w1.drewN k2) w.heap.size [.int .i64 0, .slice none 0 0] := ⟨hx1.1, hx1.2⟩
  generalize w1.drewN k2 = w2 at hl2 hx2 ⊢
  clear HC hb1 hx1
  go_wp2_with fail
  refine (HNum.out _).mono ?_
  rintro e w3 ⟨rfl, hb3⟩
  have hl3 := hl2.trans (hb3.mono hl2.size)
  have HX3 := Lib.hid (hx2.below hb3 hx2.lt)
  have HE3 := Lib.hid (hE.below hl3)
  have hz3 : w.heap.size < w3.heap.size := HX3.out.lt
  clear hl2 hx2 hb3 HNum hE
  obtain ⟨e0, e1⟩ := HE3.out
  obtain ⟨x0, x1, f0, f1⟩ := HX3.out.two
  unfold sentV at e0
  cases hfb : (cf && b) with
  | false =>
    have Hr : Hid (R = none) := Lib.hid (by
      rw [HR.out, if_neg]
      rintro ⟨h1, h2⟩
      rw [h1, h2] at hfb
      cases hfb)
    have hfb2 : cf = false ∨ (cf = true ∧ b = false) := by cases cf <;> cases b <;> simp_all
    clear HR HPF hfb
    rcases hfb2 with rfl | ⟨rfl, rfl⟩
    all_goals
      go_wp2_with fail
      go_region
      all_goals
        go_wp2_with fail
        refine bodyPost_ret (v := .tuple #[.agg #[.int .i64 0, .slice none 0 0], .iface 171 (.pointer (some a))]) (by simp [results, Tryz.results45, go_sem, x0, x1]) rfl ?_
        refine ⟨.inr ⟨Hr.out, rfl⟩, ?_⟩
        first
          | exact ((hl3.setCell (by simp) _).setCell (by simp) _).drew
          | exact ((hl3.drew.setCell (by simp) _).setCell (by simp) _)
          | (trace_state; sorry)
  | true =>
    obtain ⟨rfl, rfl⟩ : cf = true ∧ b = true := by cases cf <;> cases b <;> simp_all
    have Hr : Hid (R = (parseFs cr).map fun l => (n, l)) := Lib.hid (by rw [HR.out, if_pos ⟨rfl, rfl⟩])
    clear HR hfb
    go_wp2_with fail
    refine (HPF.out _ hl3).mono ?_
    rintro e w4 ⟨hcase, hb4⟩
    have hz4 := Nat.le_of_lt hz3
    have hl4 := hl3.trans (hb4.mono hl3.size)
    have HX4 := Lib.hid (HX3.out.below hb4 HX3.out.lt)
    clear HX3 HE3 e0 e1 x0 x1 f0 f1 HPF hb4 hl3
    obtain ⟨x0, x1, f0, f1⟩ := HX4.out.two
    rcases hcase with ⟨l, u, hpl, rfl, hu⟩ | ⟨hpl, rfl⟩
    · have HU := Lib.hid hu
      have Hr2 : Hid (R = some (n, l)) := Lib.hid (by rw [Hr.out, hpl]; rfl)
      clear Hr hpl hu
      obtain ⟨up, uc, rfl⟩ := HU.out.len
      have HUf : Hid (FNew ((w4.setCell ⟨w.heap.size, 0, none⟩ (.int .i64 n)).setCell ⟨w.heap.size, 1, none⟩ (.slice up l.length uc)) w.heap.size (.slice up l.length uc) l) := Lib.hid (by
        by_cases e : w3.heap.size = w.heap.size
        · exact absurd e (by omega)
        · exact ((HU.out.off (p := ⟨w.heap.size, 0, none⟩) (by simp; omega) _).off (p := ⟨w.heap.size, 1, none⟩) (by simp; omega) _).mono hz4)
      have HX5 := (HX4.out.set 0 (.int .i64 n)).set 1 (.slice up l.length uc)
      have hl5 := (hl4.setCell (p := ⟨w.heap.size, 0, none⟩) (by simp) (.int .i64 n)).setCell (p := ⟨w.heap.size, 1, none⟩) (by simp) (.slice up l.length uc)
      go_wp2_with fail
      generalize ((w4.setCell ⟨w.heap.size, 0, none⟩ (.int .i64 n)).setCell ⟨w.heap.size, 1, none⟩ (.slice up l.length uc)) = w5 at HUf HX5 hl5 ⊢
      obtain ⟨y0, y1, _⟩ := HX5.two
      refine bodyPost_ret (v := .tuple #[.agg #[.int .i64 n, .slice up l.length uc], .nilIface]) (by simp [results, Tryz.results45, go_sem, y0, y1]) rfl ?_
      exact ⟨.inl ⟨n, l, _, Hr2.out, rfl, HUf.out⟩, hl5⟩
    · have Hr2 : Hid (R = none) := Lib.hid (by rw [Hr.out, hpl]; rfl)
      unfold sentV
      clear Hr hpl
      have HX5 := (HX4.out.set 0 (.int .i64 0)).set 1 (.slice none 0 0)
      have hl5 := (hl4.setCell (p := ⟨w.heap.size, 0, none⟩) (by simp) (.int .i64 0)).setCell (p := ⟨w.heap.size, 1, none⟩) (by simp) (.slice none 0 0)
      go_wp2_with fail
      generalize ((w4.setCell ⟨w.heap.size, 0, none⟩ (.int .i64 0)).setCell ⟨w.heap.size, 1, none⟩ (.slice none 0 0)) = w5 at HX5 hl5 ⊢
      obtain ⟨y0, y1, _⟩ := HX5.two
      refine bodyPost_ret (v := .tuple #[.agg #[.int .i64 0, .slice none 0 0], .iface 171 (.pointer (some a))]) (by simp [results, Tryz.results45, go_sem, y0, y1]) rfl ?_
      exact ⟨.inr ⟨Hr2.out, rfl⟩, hl5⟩
end Go.Proofs.YtcbohfncckpolaaGreatDoor.Num

/-
  Messages that are being laid anew, some without fields (then no block is theirs); and how long what parses is. For any program.
-/
namespace Go.Proofs.YtcbohfncckpolaaGreatDoor.Num
open Go.RowKit Go.Proofs Go
set_option linter.unusedVariables false

structure LaidN (w : World) (gv : Nat) (ms : List OM) : Prop where
  vals : ∀ j (h : j < ms.length), w.cell? ⟨gv, j * 2 + 1, none⟩ = some ms[j].2.1
  flds : ∀ j (h : j < ms.length), (ms[j].2.1 = .slice none 0 0 ∧ ms[j].2.2 = []) ∨ ∃ g cap, ms[j].2.1 = .slice (some ⟨g, 0, none⟩) ms[j].2.2.length cap ∧ gv < g ∧ g < w.heap.size ∧ Fill w g (ms[j].2.2.length * 5)
  each : ∀ i j (hi : i < ms.length) (hj : j < ms.length), i ≠ j → Apart ms[i].2.1 ms[j].2.1
theorem LaidN.start (w : World) (gv : Nat) : LaidN w gv [] := ⟨fun j h => by simp at h, fun j h => by simp at h, fun i j h => by simp at h⟩
theorem LaidN.below {w w' : World} {gv : Nat} {ms : List OM} (h : LaidN w gv ms) (hb : Below w.heap.size w w') (hg : gv < w.heap.size) : LaidN w' gv ms :=
  ⟨fun j hj => (hb.cell (p := ⟨gv, _, none⟩) hg).trans (h.vals j hj), fun j hj => by
    rcases h.flds j hj with h0 | ⟨g, c, h1, h2, h3, h4⟩
    · exact .inl h0
    · exact .inr ⟨g, c, h1, h2, Nat.lt_of_lt_of_le h3 hb.size, h4.below hb h3⟩, h.each⟩
theorem LaidN.push {w w2 : World} {gv k : Nat} {ms : List OM} {id : Int} {fs : List RF} {a u : Value} (h : LaidN w gv ms) (hk : ms.length = k) (hb : Below w.heap.size w w2) (hg : gv < w.heap.size) (hu : FNew w2 w.heap.size u fs)
    (hc : ∃ v, w2.cell? ⟨gv, k * 2 + 1, none⟩ = some v) :
    LaidN ((w2.setCell ⟨gv, k * 2, none⟩ a).setCell ⟨gv, k * 2 + 1, none⟩ u) gv (ms ++ [(id, u, fs)]) := by
  subst hk
  have hL := h.below hb hg
  have hz : ((w2.setCell ⟨gv, ms.length * 2, none⟩ a).setCell ⟨gv, ms.length * 2 + 1, none⟩ u).heap.size = w2.heap.size := by simp [World.setCell]
  have hold : ∀ j (hj : j < ms.length), Apart ms[j].2.1 u ∧ Apart u ms[j].2.1 := fun j hj => by
    have hj1 : ∀ b, ms[j].2.1.ownBlock = some b → b < w.heap.size := fun b e => by
      rcases h.flds j hj with ⟨h0, _⟩ | ⟨g, c, h1, h2, h3, h4⟩
      · rw [h0] at e; cases e
      · rw [h1] at e; obtain rfl : g = b := Option.some.inj e; exact h3
    have hu1 : ∀ b, u.ownBlock = some b → w.heap.size ≤ b := fun b e => by
      rcases hu with ⟨h0, _⟩ | ⟨g, c, h1, h2, _⟩
      · rw [h0] at e; cases e
      · rw [h1] at e; obtain rfl : g = b := Option.some.inj e; exact h2
    refine ⟨?_, ?_⟩
    · cases e : ms[j].2.1.ownBlock with
      | none => exact .inl e
      | some b => exact .inr fun c => by have := hj1 b e; have := hu1 b (by rw [← c, e]); omega
    · cases e : u.ownBlock with
      | none => exact .inl e
      | some b => exact .inr fun c => by have := hu1 b e; have := hj1 b (by rw [← c, e]); omega
  refine ⟨fun j hj => ?_, fun j hj => ?_, fun i j hi hj hij => ?_⟩
  · by_cases e : j < ms.length
    · rw [List.getElem_append_left e, cell_off (by omega), cell_off (by omega)]; exact hL.vals j e
    · obtain rfl : j = ms.length := by simp at hj; omega
      rw [List.getElem_append_right (by omega)]
      simp only [Nat.sub_self, List.getElem_cons_zero]
      obtain ⟨v, hv⟩ := hc
      exact World.cell?_setCell_same _ _ _ (by rw [cell_off (by omega)]; exact hv)
  · by_cases e : j < ms.length
    · rw [List.getElem_append_left e]
      rcases hL.flds j e with h0 | ⟨g', c', h1, h2, h3, h4⟩
      · exact .inl h0
      · exact .inr ⟨g', c', h1, h2, by omega, (h4.off (by simp; omega) _).off (by simp; omega) _⟩
    · obtain rfl : j = ms.length := by simp at hj; omega
      rw [List.getElem_append_right (by omega)]
      simp only [Nat.sub_self, List.getElem_cons_zero]
      rcases hu with h0 | ⟨g, cap, h1, h2, h3, _⟩
      · exact .inl h0
      · exact .inr ⟨g, cap, h1, by omega, by have := h3.1; omega, (h3.off (by simp; omega) _).off (by simp; omega) _⟩
  · by_cases e : i < ms.length
    · by_cases e2 : j < ms.length
      · rw [List.getElem_append_left e, List.getElem_append_left e2]; exact h.each i j e e2 hij
      · obtain rfl : j = ms.length := by simp at hj; omega
        rw [List.getElem_append_left e, List.getElem_append_right (by omega)]
        simp only [Nat.sub_self, List.getElem_cons_zero]
        exact (hold i e).1
    · obtain rfl : i = ms.length := by simp at hi; omega
      have e2 : j < ms.length := by simp at hj; omega
      rw [List.getElem_append_right (by omega), List.getElem_append_left e2]
      simp only [Nat.sub_self, List.getElem_cons_zero]
      exact (hold j e2).2
theorem LaidN.done {w : World} {gv cap : Nat} {ms : List OM} (h : LaidN w gv ms) (hf : Fill w gv (ms.length * 2)) (hat : MsgsAt w (fun b => gv ≤ b ∧ b < w.heap.size) (.slice (some ⟨gv, 0, none⟩) ms.length cap) (plain ms)) : OwnIn w gv w.heap.size (.slice (some ⟨gv, 0, none⟩) ms.length cap) ms :=
  ⟨fun b hb => by obtain rfl : gv = b := Option.some.inj hb; exact ⟨Nat.le_refl _, hf.1⟩, fun j hj b hb => by
    rcases h.flds j hj with ⟨h0, _⟩ | ⟨g, c, h1, h2, h3, _⟩
    · rw [h0] at hb; cases hb
    · rw [h1] at hb
      obtain rfl : g = b := Option.some.inj hb
      omega, hat, .inr ⟨gv, cap, rfl, hf, h.vals, fun j hj => by
    rcases h.flds j hj with h0 | ⟨g, c, h1, h2, h3, h4⟩
    · exact .inl h0
    · exact .inr ⟨g, c, h1, by omega, h4⟩, h.each⟩⟩
/-- A message's fields lie in newer blocks than its row. -/
theorem FNew.at_ {w : World} {B g : Nat} {u : Value} {l : List RF} (h : FNew w B u l) (hg : g < B) : FieldsAt w (fun b => g < b ∧ b < w.heap.size) u l := by
  rcases h with ⟨rfl, rfl⟩ | ⟨k, cap, h1, h2, h3, h4⟩
  · exact .inl ⟨rfl, _, _, rfl⟩
  · exact h4.keep (fun _ _ _ => rfl) fun b e => ⟨by rw [show b = k from e]; omega, by rw [show b = k from e]; exact h3.1⟩
theorem joinF_ge (b : UInt8) (t : List (List UInt8)) (h : List UInt8) : t.length + h.length ≤ (joinF b h t).length := by
  unfold joinF
  induction t with
  | nil => simp
  | cons p t ih => simp at ih ⊢; omega
theorem joined_ge {α : Type} (b : UInt8) {t : α → List UInt8} {l : List α} (h : ∀ x ∈ l, t x ≠ []) : l.length ≤ (joined b t l).length := by
  cases l with
  | nil => simp
  | cons x l =>
    have := joinF_ge b (l.map t) (t x)
    have := List.length_pos_iff.2 (h x List.mem_cons_self)
    show l.length + 1 ≤ (joinF b (t x) (l.map t)).length
    simp at *
    omega
theorem joined_mem {α : Type} (b : UInt8) {t : α → List UInt8} {l : List α} {x : α} (h : x ∈ l) : (t x).length ≤ (joined b t l).length := by
  cases l with
  | nil => cases h
  | cons y l =>
    show (t x).length ≤ (joinF b (t y) (l.map t)).length
    unfold joinF
    rcases List.mem_cons.1 h with rfl | h
    · simp
    · have : ∀ l : List α, x ∈ l → (t x).length ≤ ((l.map t).flatMap fun p => b :: p).length := fun l => by
        induction l with
        | nil => intro h; cases h
        | cons z l ih =>
          intro h
          rcases List.mem_cons.1 h with rfl | h
          · simp; omega
          · have := ih h; simp at this ⊢; omega
      have := this l h
      rw [List.length_append]
      omega
theorem parsed_text {s : List UInt8} {r : List RM} (h : (partsF 59 s).mapM parseM = some r) : rawText r = s ∧ ∀ m ∈ r, ∀ f ∈ m.2, hasText f := by
  obtain ⟨h1, h2⟩ := mapM_some h
  refine ⟨(parts_joined 59 ?_).symm, fun m hm => ?_⟩
  · refine List.ext_getElem (by simp [h1]) fun i hi hi' => ?_
    rw [List.getElem_map]
    exact (parseM_some (h2 i hi (by simpa using hi'))).1
  · obtain ⟨i, hi, rfl⟩ := List.getElem_of_mem hm
    exact (parseM_some (h2 i (by omega) hi)).2.2
theorem parsed_small {s : List UInt8} {r : List RM} (h : (partsF 59 s).mapM parseM = some r) (hs : s.length ≤ 1048576) : Small r := by
  obtain ⟨h1, h2⟩ := parsed_text h
  have h3 : r.length ≤ s.length := by rw [← h1]; exact joined_ge 59 fun m _ => msgText_ne m
  refine ⟨by omega, fun m hm => ?_⟩
  have h4 : m.2.length ≤ (fieldsText m.2).length := joined_ge 44 fun f hf => textF_ne (h2 m hm f hf)
  have h5 : (fieldsText m.2).length ≤ (msgText m).length := by unfold msgText; simp; omega
  have h6 : (msgText m).length ≤ s.length := by rw [← h1]; exact joined_mem 59 hm
  omega
end Go.Proofs.YtcbohfncckpolaaGreatDoor.Num

/-
  The walks of spec.LongOf and spec.Number: the value of a shortest decimal numeral within the limit and true, at every other string 0 and false; only new memory is written.
-/
namespace Go.Proofs.YtcbohfncckpolaaGreatDoor.Num
open Go.RowKit Go.Proofs

theorem specLongOf_bad (s : ByteArray) (w : World) (hs : s.size ≤ 9223372036854775807) (h : s.size < 1 ∨ 20 < s.size) :
    Calls Tryz.prog 53 #[.string s] w fun e w' => e = .returned (.tuple #[.int .u64 0, .bool false]) ∧ w = w' := by
  rcases h with h | h
  · go_enter Tryz.func53, Tryz.ntmps53
    go_wp2_with fail
    go_ret2
    exact ⟨rfl, rfl⟩
  · go_enter Tryz.func53, Tryz.ntmps53
    go_wp2_with fail
    go_ret2
    exact ⟨rfl, rfl⟩
set_option maxHeartbeats 400000 in
theorem specLongOf_good (s : ByteArray) (w : World) (h1 : 1 ≤ s.size) (h2 : s.size ≤ 20) :
    Calls Tryz.prog 53 #[.string s] w fun e w' => e = .returned (.tuple #[.int .u64 (parse 18446744073709551615 s.data.toList).1, .bool (parse 18446744073709551615 s.data.toList).2]) ∧ Below w.heap.size w w' := by
  go_enter Tryz.func53, Tryz.ntmps53
  go_wp2_with fail
  go_loop [4, 5] (fun v i => ∃ k : Nat, k ≤ s.size ∧ i = .int .i64 k ∧ v = .int .u64 (val (s.data.toList.take k)) ∧ pref 18446744073709551615 (s.data.toList.take k) = true) (fun _ i => s.size - (intOf i).toNat)
  case atStart => exact ⟨0, Nat.zero_le _, rfl, rfl, pref_nil _⟩
  case round =>
    obtain ⟨k, hk, rfl, rfl, hp⟩ := hrel
    by_cases hlt : k < s.size
    · have hts := take_snoc s k hlt
      have Hts := Lib.hid hts; clear hts
      have hp1 : (s.data.toList.take k).all isDig = true := by simp only [pref, Bool.and_eq_true] at hp; exact hp.1
      have Hp1 := Lib.hid hp1; clear hp1
      have hp2 : val (s.data.toList.take k) ≤ 18446744073709551615 := by simp only [pref, Bool.and_eq_true, decide_eq_true_eq] at hp; exact hp.2
      clear hp
      cases hd : isDig s[k] with
      | false =>
        have Hd := Lib.hid hd; clear hd
        have hbad : s[k].toNat < 48 ∨ 57 < s[k].toNat := by
          have h := Hd.out; unfold isDig at h; rw [decide_eq_false_iff_not] at h; omega
        have Hf : Hid (parse 18446744073709551615 s.data.toList = (0, false)) := Lib.hid (by
          refine parse_no (pref_no (pref_take (k + 1) ?_))
          rw [Hts.out, Bool.eq_false_iff]
          intro h
          rw [pref_snoc, Hd.out] at h
          exact absurd h.2.1 (by simp))
        rcases hbad with hbad | hbad
        · go_wp2_with fail
          go_ret2
          exact ⟨by rw [Hf.out]; rfl, Below.refl _ _⟩
        · have hbad2 : ¬ s[k].toNat < 48 := by omega
          go_wp2_with fail
          go_ret2
          exact ⟨by rw [Hf.out]; rfl, Below.refl _ _⟩
      | true =>
        have hb : 48 ≤ s[k].toNat ∧ s[k].toNat ≤ 57 := by unfold isDig at hd; simpa using hd
        obtain ⟨hb1, hb2⟩ := hb
        have Hd := Lib.hid hd; clear hd
        by_cases hv : 10 * val (s.data.toList.take k) + (s[k].toNat - 48) ≤ 18446744073709551615
        · go_wp2_with fail
          go_round
          case rel =>
            refine ⟨k + 1, by omega, by go_num, ?_, ?_⟩
            · rw [Hts.out, val_snoc]; go_num
            · rw [Hts.out, pref_snoc]; exact ⟨Hp1.out, Hd.out, hv⟩
          case measure => simp [intOf]; omega
        · have Hf : Hid (parse 18446744073709551615 s.data.toList = (0, false)) := Lib.hid (by
            refine parse_no (pref_no (pref_take (k + 1) ?_))
            rw [Hts.out, Bool.eq_false_iff]
            intro h
            rw [pref_snoc] at h
            exact absurd h.2.2 hv)
          go_wp2_with fail
          go_ret2
          exact ⟨by rw [Hf.out]; rfl, Below.refl _ _⟩
    · have e1 : k = s.size := by omega
      have e2 : s.data.toList.take k = s.data.toList := List.take_of_length_le (by simp; omega)
      clear e1
      have Hp := Lib.hid hp; clear hp
      have hvl : val (s.data.toList.take k) ≤ 18446744073709551615 := by have hp := Hp.out; simp only [pref, Bool.and_eq_true, decide_eq_true_eq] at hp; exact hp.2
      have Hn : Hid (numOk 18446744073709551615 s.data.toList = decide (dec (val s.data.toList) = s.data.toList)) := Lib.hid (numOk_back (by have := Hp.out; rwa [e2] at this))
      have E2 := Lib.hid e2; clear e2
      go_wp2_with fail
      refine (long_any _ _ hvl).mono ?_
      rintro e w1 ⟨rfl, hb⟩
      rw [E2.out]
      by_cases heq : dec (val s.data.toList) = s.data.toList
      · have Hf : Hid (parse 18446744073709551615 s.data.toList = (val s.data.toList, true)) := Lib.hid (parse_yes (by rw [Hn.out, heq]; simp))
        have ht : (dec (val s.data.toList) == s.toList) = true := by rw [ByteArray.toList_eq, heq]; simp
        clear heq
        go_wp2_with fail
        go_ret2
        exact ⟨by rw [Hf.out]; rfl, hb⟩
      · have Hf : Hid (parse 18446744073709551615 s.data.toList = (0, false)) := Lib.hid (parse_no (by rw [Hn.out]; simp [heq]))
        have ht : (dec (val s.data.toList) == s.toList) = false := by rw [ByteArray.toList_eq]; simp [heq]
        clear heq
        go_wp2_with fail
        go_ret2
        exact ⟨by rw [Hf.out]; rfl, hb⟩
theorem specLongOf_any (s : ByteArray) (w : World) (hs : s.size ≤ 9223372036854775807) :
    Calls Tryz.prog 53 #[.string s] w fun e w' => e = .returned (.tuple #[.int .u64 (parse 18446744073709551615 s.data.toList).1, .bool (parse 18446744073709551615 s.data.toList).2]) ∧ Below w.heap.size w w' := by
  by_cases h : s.size < 1 ∨ 20 < s.size
  · refine (specLongOf_bad s w hs h).mono fun e w' ⟨he, hw⟩ => ?_
    have hf : parse 18446744073709551615 s.data.toList = (0, false) := by
      apply parse_no
      rcases h with h | h
      · have h3 : s.data.toList.length = s.size := by simp
        have : s.data.toList = [] := List.length_eq_zero_iff.1 (by omega)
        rw [this]; exact numOk_nil
      · exact numOk_long (Nat.le_refl _) (by simpa using h)
    rw [hf]
    subst hw
    exact ⟨he, Below.refl _ _⟩
  · exact specLongOf_good s w (by omega) (by omega)
theorem parse_bound (M : Nat) (l : List UInt8) : (parse M l).1 ≤ M := by
  unfold parse
  split
  · rename_i h; simp only [numOk, Bool.and_eq_true, decide_eq_true_eq] at h; exact h.2
  · exact Nat.zero_le _
theorem specNumber_any (s : ByteArray) (w : World) (hs : s.size ≤ 9223372036854775807) :
    Calls Tryz.prog 27 #[.string s] w fun e w' => e = .returned (.tuple #[.int .i64 (parse 999999999 s.data.toList).1, .bool (parse 999999999 s.data.toList).2]) ∧ Below w.heap.size w w' := by
  go_enter Tryz.func27, Tryz.ntmps27
  go_wp2_with fail
  refine (specLongOf_any s _ hs).mono ?_
  rintro e w1 ⟨rfl, hb⟩
  cases h : numOk 18446744073709551615 s.data.toList with
  | false =>
    have h2 : numOk 999999999 s.data.toList = false := by
      cases h2 : numOk 999999999 s.data.toList with
      | false => rfl
      | true =>
        simp only [numOk, Bool.and_eq_true, decide_eq_true_eq] at h2
        simp only [numOk, h2.1, Bool.true_and, decide_eq_false_iff_not] at h
        omega
    have Hf : Hid (parse 999999999 s.data.toList = (0, false)) := Lib.hid (parse_no h2)
    have hp := parse_no h
    rw [hp]
    clear hp h h2
    go_wp2_with fail
    go_ret2
    exact ⟨by rw [Hf.out]; rfl, hb⟩
  | true =>
    have hp := parse_yes h
    rw [hp]
    have hvb : val s.data.toList ≤ 18446744073709551615 := by simp only [numOk, Bool.and_eq_true, decide_eq_true_eq] at h; exact h.2
    by_cases hv : val s.data.toList ≤ 999999999
    · have Hf : Hid (parse 999999999 s.data.toList = (val s.data.toList, true)) := Lib.hid (parse_yes (by
        simp only [numOk, Bool.and_eq_true, decide_eq_true_eq] at h ⊢; exact ⟨h.1, hv⟩))
      clear hp h
      go_wp2_with fail
      go_ret2
      exact ⟨by rw [Hf.out]; rfl, hb⟩
    · have Hf : Hid (parse 999999999 s.data.toList = (0, false)) := Lib.hid (parse_no (by
        cases h2 : numOk 999999999 s.data.toList with
        | false => rfl
        | true => simp only [numOk, Bool.and_eq_true, decide_eq_true_eq] at h2; exact absurd h2.2 hv))
      clear hp h
      go_wp2_with fail
      go_ret2
      exact ⟨by rw [Hf.out]; rfl, hb⟩
end Go.Proofs.YtcbohfncckpolaaGreatDoor.Num

/-
  The walk of the reference's ReadField: the field whose text the string is and true, or the zero field and false; only new memory is written.
-/
namespace Go.Proofs.YtcbohfncckpolaaGreatDoor.Num
open Go.RowKit Go.Proofs
set_option linter.unusedVariables false
set_option linter.unusedSimpArgs false

/-- Within the walk: the result's cell is still zero, the field being read lies at gf, the words in v. -/
def QSt (w wx : World) (D gf : Nat) (f : RF) (p : Option Addr) (n cap : Nat) (ss : List (List UInt8)) : Prop :=
  Box wx w.heap.size (fieldC zeroF) ∧ Box wx gf (fieldC f) ∧ w.heap.size < D ∧ D ≤ gf ∧ Below w.heap.size w wx ∧ SlS wx D p n cap ss
section
variable {w wx : World} {D gf : Nat} {f : RF} {p : Option Addr} {n cap : Nat} {ss : List (List UInt8)}
theorem QSt.all {w' : World} (h : QSt w wx D gf f p n cap ss) (hb : Below wx.heap.size wx w') : QSt w w' D gf f p n cap ss := by
  obtain ⟨h1, h2, h3, h4, h5, hS⟩ := h
  exact ⟨h1.below hb h1.lt, h2.below hb h2.lt, h3, h4, h5.trans (hb.mono h5.size), hS.below (hb.mono (Nat.le_of_lt (Nat.lt_of_le_of_lt h4 h2.lt)))⟩
theorem QSt.drew (h : QSt w wx D gf f p n cap ss) : QSt w wx.drew D gf f p n cap ss := ⟨h.1.drew, h.2.1.drew, h.2.2.1, h.2.2.2.1, h.2.2.2.2.1.drew, h.2.2.2.2.2.drew⟩
theorem QSt.at {g : Nat} (h : QSt w wx D gf f (some ⟨g, 0, none⟩) n cap ss) (j : Nat) (hj : j < ss.length) : wx.cell? ⟨g, j, none⟩ = some (.string ⟨ss[j].toArray⟩) := by
  obtain ⟨_, _, _, _, _, hl, _, hS⟩ := h
  rcases hS with h0 | ⟨b, o, hp, _, hc⟩
  · omega
  · injection hp with hp
    injection hp with h1 h2
    subst h1 h2
    have := hc j hj
    rwa [Nat.zero_add] at this
theorem QSt.set (h : QSt w wx D gf f p n cap ss) (j : Nat) (u : Value) (f' : RF) (hf : (fieldC f).set j u = fieldC f') : QSt w (wx.setCell ⟨gf, j, none⟩ u) D gf f' p n cap ss := by
  obtain ⟨h1, h2, h3, h4, h5, hS⟩ := h
  exact ⟨h1.other (by simp; omega) _, by rw [← hf]; exact h2.set j u, h3, h4, h5.setCell (by simp; omega) _, hS.set (by simpa using h4) _⟩
end
/-- What the words up to the j-th give. -/
def accW (h : List UInt8) (t : List (List UInt8)) (j : Nat) : RF := (t.take j).foldl stepW (((parse 999999999 h).1 : Int), 0, false, false, 0)
theorem accW_zero (h : List UInt8) (t : List (List UInt8)) : accW h t 0 = (((parse 999999999 h).1 : Int), 0, false, false, 0) := by simp [accW]
theorem accW_step (h : List UInt8) (t : List (List UInt8)) (j : Nat) (hj : j < t.length) : accW h t (j + 1) = stepW (accW h t j) t[j] := by
  unfold accW
  rw [List.take_succ_eq_append_getElem hj, List.foldl_append]
  rfl
theorem accW_all (h : List UInt8) (t : List (List UInt8)) : accW h t t.length = readW (h :: t) := by simp [accW, readW]
set_option maxHeartbeats 1000000 in
theorem specReadField_short (s : ByteArray) (w : World) (hs : s.size ≤ 1048576) (h : s.data.toList = [] ∨ 60 < s.size) :
    Calls Tryz.prog 28 #[.string s] w fun e w' => e = .returned (.tuple #[fieldV zeroF, .bool false]) ∧ Below w.heap.size w w' := by
  have hb1 : Below w.heap.size w (w.alloc (.cells #[.int .i64 0, .int .i64 0, .bool false, .bool false, .int .i64 0] 58)) := (Below.refl _ _).alloc (Nat.le_refl _) _
  have hx1 := Box.fresh w #[.int .i64 0, .int .i64 0, .bool false, .bool false, .int .i64 0] 58
  unfold fieldV zeroF
  simp only
  by_cases h0 : s.data.toList = []
  · obtain rfl : s = ⟨#[]⟩ := by
      rcases s with ⟨⟨l⟩⟩
      simp at h0
      rw [h0]
    clear h h0
    go_enter Tryz.func28, Tryz.ntmps28
    go_wp2_with fail
    refine bodyPost_ret (v := .tuple #[.agg #[.int .i64 0, .int .i64 0, .bool false, .bool false, .int .i64 0], .bool false]) (by simp [results, Tryz.results28, go_sem]) rfl ?_
    exact ⟨rfl, by repeat (first | with_reducible exact Below.refl _ _ | refine Below.setCell ?_ (by simp) _ | refine Below.alloc ?_ (by first | omega | (simp <;> omega)) _)⟩
  · have hl : 60 < s.size := by rcases h with h | h
                                · exact absurd h h0
                                · exact h
    have he : s.toList.isEmpty = false := by rw [ByteArray.toList_eq]; simpa using h0
    have hli : (60 : Int) < (s.size : Int) := by omega
    clear h h0
    go_enter Tryz.func28, Tryz.ntmps28
    go_wp2_with fail
    refine bodyPost_ret (v := .tuple #[.agg #[.int .i64 0, .int .i64 0, .bool false, .bool false, .int .i64 0], .bool false]) (by simp [results, Tryz.results28, go_sem]) rfl ?_
    exact ⟨rfl, by repeat (first | with_reducible exact Below.refl _ _ | refine Below.setCell ?_ (by simp) _ | refine Below.alloc ?_ (by first | omega | (simp <;> omega)) _)⟩
set_option maxHeartbeats 4000000 in
set_option maxRecDepth 100000 in
theorem specReadField_long (s : ByteArray) (w : World) (h0 : s.data.toList ≠ []) (hs : s.size ≤ 60) :
    Calls Tryz.prog 28 #[.string s] w fun e w' => e = .returned (.tuple #[fieldV ((readF s.data.toList).getD zeroF), .bool (readF s.data.toList).isSome]) ∧ Below w.heap.size w w' := by
  have hplen := partsF_length 32 s.data.toList
  have hpne := partsF_ne 32 s.data.toList
  have hpmem := partsF_mem 32 s.data.toList
  have hsl : s.data.toList.length = s.size := by simp
  have he : s.toList.isEmpty = false := by rw [ByteArray.toList_eq]; simpa using h0
  have hli : ¬ ((60 : Int) < (s.size : Int)) := by omega
  have hb1 : Below w.heap.size w (w.alloc (.cells #[.int .i64 0, .int .i64 0, .bool false, .bool false, .int .i64 0] 58)) := (Below.refl _ _).alloc (Nat.le_refl _) _
  have hx1 := Box.fresh w #[.int .i64 0, .int .i64 0, .bool false, .bool false, .int .i64 0] 58
  have hz1 : w.heap.size < (w.alloc (.cells #[.int .i64 0, .int .i64 0, .bool false, .bool false, .int .i64 0] 58)).heap.size := by simp
  have HP := Lib.hid (specParts_any s 32 (w.alloc (.cells #[.int .i64 0, .int .i64 0, .bool false, .bool false, .int .i64 0] 58)) (by omega))
  rw [show ((32 : UInt8).toNat : Int) = 32 from rfl] at HP
  have HRF : Hid (readF s.data.toList = if textF (readW (partsF 32 s.data.toList)) = s.data.toList then some (readW (partsF 32 s.data.toList)) else none) := Lib.hid (by
    unfold readF
    by_cases hc : textF (readW (partsF 32 s.data.toList)) = s.data.toList
    · rw [if_pos ⟨h0, by omega, hc⟩, if_pos hc]
    · rw [if_neg (fun e => hc e.2.2), if_neg hc])
  generalize hws : partsF 32 s.data.toList = ws at hplen hpne hpmem HP HRF ⊢
  obtain ⟨R, hR⟩ : ∃ R, readF s.data.toList = R := ⟨_, rfl⟩
  rw [hR]
  rw [hR] at HRF
  have Hws := Lib.hid hws
  clear hws hR h0
  go_enter Tryz.func28, Tryz.ntmps28
  go_wp2_with fail
  generalize (w.alloc (.cells #[.int .i64 0, .int .i64 0, .bool false, .bool false, .int .i64 0] 58)) = w1 at hb1 hx1 HP hz1 ⊢
  refine HP.out.mono ?_
  rintro e w2 ⟨v, P, rfl, hP, hown, hb2⟩
  rw [Hws.out] at hP
  obtain ⟨g, cap, rfl, hg, hS⟩ := slS_of (w := w) hown hP hpne
  have hl2 := hb1.trans (hb2.mono hb1.size)
  have hz2 : w.heap.size < w2.heap.size := Nat.lt_of_lt_of_le hz1 hb2.size
  have hn : ws.length ≤ 61 := by omega
  have Hmem : Hid (∀ p ∈ ws, p.length ≤ 60) := Lib.hid fun p hp => by have := hpmem p hp; omega
  have HX2 := Lib.hid (hx1.below hb2 hz1)
  have HS := Lib.hid hS
  clear hown hb2 hx1 hP hb1 hS HP hplen hpmem hsl Hws he hli
  match ws, hpne, HS, hn, Hmem, HRF with
  | [], hpne, HS, hn, Hmem, HRF => exact absurd rfl hpne
  | h :: t, hpne, HS, hn, Hmem, HRF =>
    obtain ⟨b, o, hp, hblt, hcells⟩ := HS.out.cells (by simp)
    obtain ⟨rfl, rfl⟩ : g = b ∧ 0 = o := by injection hp with hp; injection hp with h1 h2; exact ⟨h1, h2⟩
    have q0 := hcells 0 (by simp)
    simp only [List.getElem_cons_zero, Nat.zero_add] at q0
    obtain ⟨sh, hsh⟩ : ∃ s : ByteArray, s = ⟨h.toArray⟩ := ⟨_, rfl⟩
    rw [← hsh] at q0
    have Hcell : Hid (∀ j (hj : j < t.length), w2.cell? ⟨g, j + 1, none⟩ = some (.string ⟨t[j].toArray⟩)) := Lib.hid fun j hj => by
      have h := hcells (j + 1) (by simpa using hj)
      rw [Nat.zero_add] at h
      simpa using h
    have HN0 : Hid ((h :: t).length = t.length + 1) := Lib.hid (by simp)
    clear hcells hp
    generalize hN : (h :: t).length = N at *
    have hNp : (0 : Int) < (N : Int) := by have := HN0.out; omega
    obtain ⟨nh, hnh⟩ : ∃ n : Int, ((parse 999999999 h).1 : Int) = n := ⟨_, rfl⟩
    obtain ⟨bh, hbh⟩ : ∃ b, (parse 999999999 h).2 = b := ⟨_, rfl⟩
    have HNum : Hid (∀ wx, Calls Tryz.prog 27 #[.string sh] wx fun e w' => e = .returned (.tuple #[.int .i64 nh, .bool bh]) ∧ Below wx.heap.size wx w') := Lib.hid fun wx => by
      have hh := specNumber_any sh wx (by have := Hmem.out h (by simp); rw [hsh]; simp [ByteArray.size]; omega)
      rw [show sh.data.toList = h by rw [hsh], hnh, hbh] at hh
      exact hh
    have HA0 : Hid (accW h t 0 = (nh, 0, false, false, 0)) := Lib.hid (by rw [accW_zero, hnh])
    have Hmt : Hid (∀ j (hj : j < t.length), t[j].length ≤ 60) := Lib.hid fun j hj => Hmem.out _ (List.mem_cons_of_mem _ (List.getElem_mem hj))
    have Hsh : Hid ((⟨h.toArray⟩ : ByteArray) = sh) := Lib.hid hsh.symm
    clear hnh hbh hsh hN Hmem
    go_upto_region 4 with fail
    have HQ4 : Hid (QSt w (w2.alloc (.cells #[.int .i64 0, .int .i64 0, .bool false, .bool false, .int .i64 0] 58)) w2.heap.size w2.heap.size (0, 0, false, false, 0) (some ⟨g, 0, none⟩) N cap (h :: t)) := Lib.hid
      ⟨HX2.out.alloc _, Box.fresh w2 #[.int .i64 0, .int .i64 0, .bool false, .bool false, .int .i64 0] 58, hz2, Nat.le_refl _, hl2.alloc hl2.size _, HS.out.below ((Below.refl _ _).alloc (Nat.le_refl _) _)⟩
    go_upto_region 5 with fail
    generalize (w2.alloc (.cells #[.int .i64 0, .int .i64 0, .bool false, .bool false, .int .i64 0] 58)) = w3 at HQ4 ⊢
    have q0 : w3.cell? ⟨g, 0, none⟩ = some (.string sh) := by have := HQ4.out.at 0 (by simp); rw [this]; show some (Value.string ⟨h.toArray⟩) = _; rw [Hsh.out]
    obtain ⟨⟨f0, f1, f2, f3, f4⟩, g0, g1, g2, g3, g4⟩ := Box.five HQ4.out.2.1
    go_wp2_with fail
    refine (HNum.out _).mono ?_
    rintro e w4 ⟨rfl, hb4⟩
    have HQ5 := Lib.hid (HQ4.out.all hb4)
    clear HQ4 hb4 q0 f0 f1 f2 f3 f4 g0 g1 g2 g3 g4 HX2 HS Hcell HNum Hsh
    obtain ⟨⟨f0, f1, f2, f3, f4⟩, g0, g1, g2, g3, g4⟩ := Box.five HQ5.out.2.1
    go_wp2_with fail
    have HQ6 : Hid (QSt w (w4.setCell ⟨w2.heap.size, 0, none⟩ (.int .i64 nh)) w2.heap.size w2.heap.size (accW h t 0) (some ⟨g, 0, none⟩) N cap (h :: t)) := Lib.hid (by rw [HA0.out]; exact HQ5.out.set 0 _ _ rfl)
    clear HQ5 f0 f1 f2 f3 f4 g0 g1 g2 g3 g4
    go_loopw [6] (fun x wr => ∃ k : Nat, 1 ≤ k ∧ k ≤ N ∧ x = .int .i64 k ∧ Hid (QSt w wr w2.heap.size w2.heap.size (accW h t (k - 1)) (some ⟨g, 0, none⟩) N cap (h :: t))) (fun x _ => N - (intOf x).toNat)
    case atStart => exact ⟨1, Nat.le_refl _, by omega, rfl, HQ6⟩
    case round =>
      clear HQ6
      obtain ⟨wo, rfl⟩ : ∃ wo : World, wo = wr := ⟨_, rfl⟩
      obtain ⟨k, hk1, hk, rfl, HQ⟩ := hrel
      by_cases hlt : k < N
      · have hlti : (k : Int) < (N : Int) := by omega
        have hkt : k - 1 < t.length := by have := HN0.out; omega
        have Hst : Hid (accW h t k = stepW (accW h t (k - 1)) t[k - 1]) := Lib.hid (by
          have := accW_step h t (k - 1) hkt
          rwa [show k - 1 + 1 = k by omega] at this)
        have hW60 := Hmt.out (k - 1) hkt
        have Hcw : Hid (∀ (wx : World) (f : RF), QSt w wx w2.heap.size w2.heap.size f (some ⟨g, 0, none⟩) N cap (h :: t) → wx.cell? ⟨g, k, none⟩ = some (.string ⟨t[k - 1].toArray⟩)) := Lib.hid fun wx f hq => by
          have hkl : k < (h :: t).length := by simp; omega
          have := hq.at k hkl
          rw [this]
          congr 3
          rw [List.getElem_cons, dif_neg (by omega)]
        generalize t[k - 1] = W at Hst hW60 Hcw
        obtain ⟨sw, esw⟩ : ∃ s : ByteArray, s = ⟨W.toArray⟩ := ⟨_, rfl⟩
        rw [← esw] at Hcw
        have HsW : Hid (sw.data.toList = W) := Lib.hid (by rw [esw])
        have Hswz : Hid (sw.size ≤ 9223372036854775807) := Lib.hid (by rw [esw]; simp [ByteArray.size]; omega)
        generalize accW h t (k - 1) = F at HQ Hst
        obtain ⟨A1, A2, A3, A4, A5⟩ := F
        clear esw hW60
        go_wp2_with fail
        go_loopw [7] (fun y wq => ∃ m : Nat, 1 ≤ m ∧ m ≤ 9 ∧ y = .int .i64 m ∧ Hid (QSt w wq w2.heap.size w2.heap.size (A1, kindTo W A2 (m - 1), A3, A4, A5) (some ⟨g, 0, none⟩) N cap (h :: t))) (fun y _ => 9 - (intOf y).toNat)
        case atStart => exact ⟨1, Nat.le_refl _, by omega, rfl, HQ⟩
        case round =>
          clear HQ
          obtain ⟨m, hm1, hm9, rfl, HQ⟩ := hrel
          have q1 := Hcw.out _ _ HQ.out
          by_cases hm : m ≤ 8
          · have hmi : (m : Int) ≤ 8 := by omega
            obtain ⟨q, hq⟩ : ∃ q, (sw.toList == (wordR (m : Int)).toList) = q := ⟨_, rfl⟩
            have Hq : Hid (q = decide (W = wordL (m : Int))) := Lib.hid (by
              rw [← hq, ByteArray.toList_eq, ByteArray.toList_eq, HsW.out]
              show (W == wordL (m : Int)) = _
              by_cases e : W = wordL (m : Int) <;> simp [e])
            have Hkt : Hid (kindTo W A2 m = if q = true then (m : Int) else kindTo W A2 (m - 1)) := Lib.hid (by
              obtain ⟨j, rfl⟩ : ∃ j, m = j + 1 := ⟨m - 1, by omega⟩
              rw [kindTo, Hq.out]
              simp)
            clear Hq
            go_upto_region 12 with fail
            go_cut [45] (fun s45 wx => s45 = .bool q ∧ Hid (QSt w wx w2.heap.size w2.heap.size (A1, kindTo W A2 (m - 1), A3, A4, A5) (some ⟨g, 0, none⟩) N cap (h :: t)))
            case first =>
              go_region_with (go_at_call 54; refine (specKindWord_any _ _).mono ?_; rintro e w9 ⟨rfl, hb9⟩; have HQ9 := HQ.out.drew.all hb9; have q9 := Hcw.out _ _ HQ9)
              all_goals
                have HQ10 := Lib.hid HQ9
                clear HQ9 q9 q1 hb9
                go_wp2_with fail
                go_meet
                exact ⟨rfl, HQ10⟩
            case rest =>
              obtain ⟨rfl, HQ10⟩ := hcut
              clear HQ q1 hq
              obtain ⟨⟨f0, f1, f2, f3, f4⟩, g0, g1, g2, g3, g4⟩ := Box.five HQ10.out.2.1
              cases q with
              | true =>
                have Hk2 : Hid (kindTo W A2 m = (m : Int)) := Lib.hid (by rw [Hkt.out, if_pos rfl])
                go_wp2_with fail
                go_roundw
                case rel => exact ⟨m + 1, by omega, by omega, by go_num, Lib.hid (by
                  have h := HQ10.out.set 1 (.int .i64 m) (A1, kindTo W A2 m, A3, A4, A5) (by rw [Hk2.out]; rfl)
                  simpa using h)⟩
                case measure => simp [intOf]; omega
              | false =>
                have Hk2 : Hid (kindTo W A2 m = kindTo W A2 (m - 1)) := Lib.hid (by rw [Hkt.out, if_neg (by simp)])
                go_wp2_with fail
                go_roundw
                case rel => exact ⟨m + 1, by omega, by omega, by go_num, Lib.hid (by
                  have h := HQ10.out
                  rw [← Hk2.out] at h
                  simpa using h)⟩
                case measure => simp [intOf]; omega
          · obtain rfl : m = 9 := by omega
            obtain ⟨K2, hK2⟩ : ∃ K, kindTo W A2 8 = K := ⟨_, rfl⟩
            rw [show (9 : Nat) - 1 = 8 from rfl, hK2] at HQ
            obtain ⟨nw, hnw⟩ : ∃ n : Int, ((parse 999999999 W).1 : Int) = n := ⟨_, rfl⟩
            obtain ⟨ok, hok⟩ : ∃ b, (parse 999999999 W).2 = b := ⟨_, rfl⟩
            obtain ⟨qr, hqr⟩ : ∃ q, (sw.toList == [114, 101, 112, 101, 97, 116, 101, 100]) = q := ⟨_, rfl⟩
            obtain ⟨qp, hqp⟩ : ∃ q, (sw.toList == [112, 97, 99, 107, 101, 100]) = q := ⟨_, rfl⟩
            have Hacc : Hid (accW h t k = (A1, K2, A3 || qr, A4 || qp, if ok = true then nw else A5)) := Lib.hid (by
              have hr : (W == repW) = qr := by rw [← hqr, ByteArray.toList_eq, HsW.out]; rfl
              have hp : (W == packW) = qp := by rw [← hqp, ByteArray.toList_eq, HsW.out]; rfl
              rw [Hst.out]
              unfold stepW
              simp only [hK2, hr, hp, hok, hnw])
            have HNw : Hid (∀ wx, Calls Tryz.prog 27 #[.string sw] wx fun e w' => e = .returned (.tuple #[.int .i64 nw, .bool ok]) ∧ Below wx.heap.size wx w') := Lib.hid fun wx => by
              have hh := specNumber_any sw wx Hswz.out
              rw [HsW.out, hnw, hok] at hh
              exact hh
            clear Hst hK2 hnw hok HsW Hswz
            go_wp2_with fail
            refine (HNw.out _).mono ?_
            rintro e w7 ⟨rfl, hb7⟩
            have HQ8 := Lib.hid (HQ.out.all hb7)
            clear HQ hb7 q1 HNw
            have q1 := Hcw.out _ _ HQ8.out
            obtain ⟨⟨f0, f1, f2, f3, f4⟩, g0, g1, g2, g3, g4⟩ := Box.five HQ8.out.2.1
            cases ok with
            | true =>
              cases A3 with
              | true =>
                cases A4 with
                | true =>
                  have Hac : Hid (accW h t k = (A1, K2, true, true, nw)) := Lib.hid (by rw [Hacc.out]; simp)
                  go_wp2_with fail
                  go_roundw
                  case rel => exact ⟨k + 1, by omega, by omega, by go_num, Lib.hid (by
                    have h := ((HQ8.out.set 4 (.int .i64 nw) (A1, K2, true, true, nw) rfl).set 2 (.bool true) (A1, K2, true, true, nw) rfl).set 3 (.bool true) (A1, K2, true, true, nw) rfl
                    rw [show k + 1 - 1 = k by omega, Hac.out]
                    exact h)⟩
                  case measure => simp [intOf]; omega
                | false =>
                  have Hac : Hid (accW h t k = (A1, K2, true, qp, nw)) := Lib.hid (by rw [Hacc.out]; simp)
                  go_wp2_with fail
                  go_roundw
                  case rel => exact ⟨k + 1, by omega, by omega, by go_num, Lib.hid (by
                    have h := ((HQ8.out.set 4 (.int .i64 nw) (A1, K2, true, false, nw) rfl).set 2 (.bool true) (A1, K2, true, false, nw) rfl).set 3 (.bool qp) (A1, K2, true, qp, nw) rfl
                    rw [show k + 1 - 1 = k by omega, Hac.out]
                    exact h)⟩
                  case measure => simp [intOf]; omega
              | false =>
                cases A4 with
                | true =>
                  have Hac : Hid (accW h t k = (A1, K2, qr, true, nw)) := Lib.hid (by rw [Hacc.out]; simp)
                  go_wp2_with fail
                  go_roundw
                  case rel => exact ⟨k + 1, by omega, by omega, by go_num, Lib.hid (by
                    have h := ((HQ8.out.set 4 (.int .i64 nw) (A1, K2, false, true, nw) rfl).set 2 (.bool qr) (A1, K2, qr, true, nw) rfl).set 3 (.bool true) (A1, K2, qr, true, nw) rfl
                    rw [show k + 1 - 1 = k by omega, Hac.out]
                    exact h)⟩
                  case measure => simp [intOf]; omega
                | false =>
                  have Hac : Hid (accW h t k = (A1, K2, qr, qp, nw)) := Lib.hid (by rw [Hacc.out]; simp)
                  go_wp2_with fail
                  go_roundw
                  case rel => exact ⟨k + 1, by omega, by omega, by go_num, Lib.hid (by
                    have h := ((HQ8.out.set 4 (.int .i64 nw) (A1, K2, false, false, nw) rfl).set 2 (.bool qr) (A1, K2, qr, false, nw) rfl).set 3 (.bool qp) (A1, K2, qr, qp, nw) rfl
                    rw [show k + 1 - 1 = k by omega, Hac.out]
                    exact h)⟩
                  case measure => simp [intOf]; omega
            | false =>
              cases A3 with
              | true =>
                cases A4 with
                | true =>
                  have Hac : Hid (accW h t k = (A1, K2, true, true, A5)) := Lib.hid (by rw [Hacc.out]; simp)
                  go_wp2_with fail
                  go_roundw
                  case rel => exact ⟨k + 1, by omega, by omega, by go_num, Lib.hid (by
                    have h := ((HQ8.out).set 2 (.bool true) (A1, K2, true, true, A5) rfl).set 3 (.bool true) (A1, K2, true, true, A5) rfl
                    rw [show k + 1 - 1 = k by omega, Hac.out]
                    exact h)⟩
                  case measure => simp [intOf]; omega
                | false =>
                  have Hac : Hid (accW h t k = (A1, K2, true, qp, A5)) := Lib.hid (by rw [Hacc.out]; simp)
                  go_wp2_with fail
                  go_roundw
                  case rel => exact ⟨k + 1, by omega, by omega, by go_num, Lib.hid (by
                    have h := ((HQ8.out).set 2 (.bool true) (A1, K2, true, false, A5) rfl).set 3 (.bool qp) (A1, K2, true, qp, A5) rfl
                    rw [show k + 1 - 1 = k by omega, Hac.out]
                    exact h)⟩
                  case measure => simp [intOf]; omega
              | false =>
                cases A4 with
                | true =>
                  have Hac : Hid (accW h t k = (A1, K2, qr, true, A5)) := Lib.hid (by rw [Hacc.out]; simp)
                  go_wp2_with fail
                  go_roundw
                  case rel => exact ⟨k + 1, by omega, by omega, by go_num, Lib.hid (by
                    have h := ((HQ8.out).set 2 (.bool qr) (A1, K2, qr, true, A5) rfl).set 3 (.bool true) (A1, K2, qr, true, A5) rfl
                    rw [show k + 1 - 1 = k by omega, Hac.out]
                    exact h)⟩
                  case measure => simp [intOf]; omega
                | false =>
                  have Hac : Hid (accW h t k = (A1, K2, qr, qp, A5)) := Lib.hid (by rw [Hacc.out]; simp)
                  go_wp2_with fail
                  go_roundw
                  case rel => exact ⟨k + 1, by omega, by omega, by go_num, Lib.hid (by
                    have h := ((HQ8.out).set 2 (.bool qr) (A1, K2, qr, false, A5) rfl).set 3 (.bool qp) (A1, K2, qr, qp, A5) rfl
                    rw [show k + 1 - 1 = k by omega, Hac.out]
                    exact h)⟩
                  case measure => simp [intOf]; omega
      · obtain rfl : k = N := by omega
        obtain ⟨F, hF⟩ : ∃ F, accW h t (k - 1) = F := ⟨_, rfl⟩
        have HFr : Hid (readW (h :: t) = F) := Lib.hid (by rw [← hF, ← accW_all, show t.length = k - 1 by have := HN0.out; omega])
        rw [hF] at HQ
        have HT := Lib.hid (specFieldText_any F)
        have hRF := HRF.out
        rw [HFr.out] at hRF
        obtain ⟨sT, hsT⟩ : ∃ s : ByteArray, s = ⟨(textF F).toArray⟩ := ⟨_, rfl⟩
        rw [← hsT] at HT
        have hle : (k : Int) ≤ (k : Int) := Int.le_refl _
        by_cases hc : textF F = s.data.toList
        · rw [if_pos hc] at hRF
          have hTs : sT = s := by rw [hsT, hc]
          rw [hTs] at HT
          have hbe : (s.toList != s.toList) = false := by simp
          have Hr := Lib.hid hRF
          obtain ⟨A1, A2, A3, A4, A5⟩ := F
          unfold fieldV at HT
          simp only at HT
          clear hRF hF HFr HRF hc hsT hTs
          obtain ⟨⟨f0, f1, f2, f3, f4⟩, g0, g1, g2, g3, g4⟩ := Box.five HQ.out.2.1
          go_wp2_with fail
          refine (HT.out _).mono ?_
          rintro e w7 ⟨rfl, hb7⟩
          have HQ8 := Lib.hid (HQ.out.all hb7)
          clear HQ hb7 f0 f1 f2 f3 f4 g0 g1 g2 g3 g4 HT
          obtain ⟨⟨f0, f1, f2, f3, f4⟩, g0, g1, g2, g3, g4⟩ := Box.five HQ8.out.2.1
          obtain ⟨⟨c0, c1, c2, c3, c4⟩, k0, k1, k2, k3, k4⟩ := Box.five HQ8.out.1
          go_wp2_with fail
          refine bodyPost_ret (v := .tuple #[.agg #[.int .i64 A1, .int .i64 A2, .bool A3, .bool A4, .int .i64 A5], .bool true]) (by simp [results, Tryz.results28, go_sem, c0, c1, c2, c3, c4]) rfl ?_
          exact ⟨by rw [Hr.out]; rfl, (((((HQ8.out.2.2.2.2.1.setCell (by simp) _).setCell (by simp) _).setCell (by simp) _).setCell (by simp) _).setCell (by simp) _)⟩
        · rw [if_neg hc] at hRF
          have hbn : ¬ (sT.toList = s.toList) := by
            rw [ByteArray.toList_eq, ByteArray.toList_eq, hsT]
            simpa using hc
          have hbe : (sT.toList != s.toList) = true := by rw [bne_iff_ne]; exact hbn
          have hbf : (sT.toList == s.toList) = false := by rw [beq_eq_false_iff_ne]; exact hbn
          have Hr := Lib.hid hRF
          obtain ⟨A1, A2, A3, A4, A5⟩ := F
          unfold fieldV at HT
          simp only at HT
          clear hRF hF HFr HRF hc hsT
          obtain ⟨⟨f0, f1, f2, f3, f4⟩, g0, g1, g2, g3, g4⟩ := Box.five HQ.out.2.1
          go_wp2_with fail
          refine (HT.out _).mono ?_
          rintro e w7 ⟨rfl, hb7⟩
          have HQ8 := Lib.hid (HQ.out.all hb7)
          clear HQ hb7 f0 f1 f2 f3 f4 g0 g1 g2 g3 g4 HT
          obtain ⟨⟨c0, c1, c2, c3, c4⟩, k0, k1, k2, k3, k4⟩ := Box.five HQ8.out.1
          go_wp2_with fail
          refine bodyPost_ret (v := .tuple #[.agg #[.int .i64 0, .int .i64 0, .bool false, .bool false, .int .i64 0], .bool false]) (by simp [results, Tryz.results28, go_sem, c0, c1, c2, c3, c4]) rfl ?_
          exact ⟨by rw [Hr.out]; rfl, (((((HQ8.out.2.2.2.2.1.setCell (by simp) _).setCell (by simp) _).setCell (by simp) _).setCell (by simp) _).setCell (by simp) _)⟩
theorem specReadField_any (s : ByteArray) (w : World) (hs : s.size ≤ 1048576) :
    Calls Tryz.prog 28 #[.string s] w fun e w' => e = .returned (.tuple #[fieldV ((readF s.data.toList).getD zeroF), .bool (readF s.data.toList).isSome]) ∧ Below w.heap.size w w' := by
  by_cases h : s.data.toList = [] ∨ 60 < s.size
  · have hr : readF s.data.toList = none := by
      unfold readF
      rw [if_neg]
      rintro ⟨h1, h2, _⟩
      rcases h with h | h
      · exact h1 h
      · have : s.data.toList.length = s.size := by simp
        omega
    rw [hr]
    exact specReadField_short s w hs h
  · exact specReadField_long s w (fun e => h (.inl e)) (by omega)
end Go.Proofs.YtcbohfncckpolaaGreatDoor.Num

/-
  The walk of the reference's ReadRaw: the valid description whose text the string is and true, laid in new memory, or the zero description and false.
-/
namespace Go.Proofs.YtcbohfncckpolaaGreatDoor.Num
open Go.RowKit Go.Proofs Go
set_option linter.unusedVariables false
set_option linter.unusedSimpArgs false

/-- What the reference's ReadRaw gives. -/
def SRaw (w : World) (s : List UInt8) (e : Ending) (w' : World) : Prop :=
  (∃ r v, Good s r ∧ e = .returned (.tuple #[v, .bool true]) ∧ RawAt w' (fun b => w.heap.size ≤ b ∧ b < w'.heap.size) v r) ∨ ((∀ r, ¬ Good s r) ∧ e = .returned (.tuple #[.agg #[.slice none 0 0], .bool false]))
/-- The strings of a row in the block g. -/
def CL (w : World) (g : Nat) (ws : List (List UInt8)) : Prop := g < w.heap.size ∧ ∀ j (h : j < ws.length), w.cell? ⟨g, j, none⟩ = some (.string ⟨ws[j].toArray⟩)
theorem CL.below {w w' : World} {g D : Nat} {ws : List (List UInt8)} (h : CL w g ws) (hb : Below D w w') (hg : g < D) : CL w' g ws := ⟨Nat.lt_of_lt_of_le h.1 hb.size, fun j hj => (hb.cell (p := ⟨g, _, none⟩) hg).trans (h.2 j hj)⟩
theorem CL.other {w : World} {g : Nat} {ws : List (List UInt8)} (h : CL w g ws) {p : Addr} (hp : p.block ≠ g) (v : Value) : CL (w.setCell p v) g ws :=
  ⟨by simpa [World.setCell] using h.1, fun j hj => by rw [World.cell?_setCell_other _ _ _ _ (by rintro rfl; exact hp rfl)]; exact h.2 j hj⟩
theorem cl_of {w : World} {g D cap : Nat} {ws : List (List UInt8)} (h : SlS w D (some ⟨g, 0, none⟩) ws.length cap ws) (h0 : ws ≠ []) (hD : D ≤ w.heap.size) : CL w g ws := by
  obtain ⟨b, o, hp, hlt, hc⟩ := h.cells (List.length_pos_iff.2 h0)
  injection hp with hp
  injection hp with h1 h2
  subst h1 h2
  exact ⟨by omega, fun j hj => by have := hc j hj; rwa [Nat.zero_add] at this⟩
theorem mapM_snoc {α β : Type} {f : α → Option β} {x : α} {y : β} : ∀ {l : List α} {r : List β}, l.mapM f = some r → f x = some y → (l ++ [x]).mapM f = some (r ++ [y])
  | [], r, h, hx => by
    simp at h
    subst h
    simp [hx]
  | z :: l, r, h, hx => by
    rw [List.mapM_cons] at h
    cases hz : f z with
    | none => rw [hz] at h; simp at h
    | some u =>
      rw [hz] at h
      cases hl : l.mapM f with
      | none => rw [hl] at h; simp at h
      | some us =>
        rw [hl] at h
        simp at h
        subst h
        rw [List.cons_append, List.mapM_cons, hz, mapM_snoc hl hx]
        rfl
theorem readM_two {x a b : List UInt8} (h : partsF 58 x = [a, b]) : readM x = if b = [] then some (((parse 999999999 a).1 : Int), []) else (((partsF 44 b).mapM readF).map fun l => (((parse 999999999 a).1 : Int), l)) := by
  unfold readM
  rw [h]
theorem readM_len {x : List UInt8} {m : RM} (h : readM x = some m) : m.2.length ≤ x.length + 1 := by
  have hm := partsF_mem 58 x
  unfold readM at h
  split at h
  · rename_i a b e
    have hb := hm b (by rw [e]; simp)
    split at h
    · injection h with h; subst h; simp
    · obtain ⟨l, hl, hm2⟩ := Option.map_eq_some_iff.1 h
      subst hm2
      have := (mapM_some hl).1
      have := partsF_length 44 b
      simp only
      omega
  · cases h
theorem read_small {s : List UInt8} {r : List RM} (h : (partsF 59 s).mapM readM = some r) (hs : s.length ≤ 4000) : Small r := by
  obtain ⟨h1, h2⟩ := mapM_some h
  have := partsF_length 59 s
  refine ⟨by omega, fun m hm => ?_⟩
  obtain ⟨i, hi, rfl⟩ := List.getElem_of_mem hm
  have h3 := readM_len (h2 i (by omega) hi)
  have h4 := partsF_mem 59 s _ (List.getElem_mem (show i < (partsF 59 s).length by omega))
  omega
set_option maxHeartbeats 8000000 in
set_option maxRecDepth 100000 in
theorem specReadRaw_any (s : ByteArray) (w : World) (hs : s.size ≤ 1048576) :
    Calls Tryz.prog 11 #[.string s] w fun e w' => SRaw w s.data.toList e w' ∧ Below w.heap.size w w' := by
  have hsl : s.data.toList.length = s.size := by simp
  by_cases h0 : s.data.toList = []
  · obtain rfl := toList_emp h0
    go_enter Tryz.func11, Tryz.ntmps11
    go_wp2_with fail
    have x0 := (Box.fresh w #[.slice none 0 0] 26).one.1
    refine bodyPost_ret (v := .tuple #[.agg #[.slice none 0 0], .bool true]) (by simp [results, Tryz.results11, go_sem, x0]) rfl ?_
    exact ⟨.inl ⟨[], _, good_nil, rfl, ⟨_, rfl, .inl ⟨rfl, _, _, rfl⟩⟩⟩, (Below.refl _ _).alloc (Nat.le_refl _) _⟩
  · have he : s.toList.isEmpty = false := by rw [ByteArray.toList_eq]; simpa using h0
    by_cases h4 : 4000 < s.size
    · have h4i : (4000 : Int) < (s.size : Int) := by omega
      have Hr : Hid (∀ r, ¬ Good s.data.toList r) := Lib.hid fun r hr => by have := hr.len; omega
      go_enter Tryz.func11, Tryz.ntmps11
      go_wp2_with fail
      have x0 := (Box.fresh w #[.slice none 0 0] 26).one.1
      refine bodyPost_ret (v := .tuple #[.agg #[.slice none 0 0], .bool false]) (by simp [results, Tryz.results11, go_sem, x0]) rfl ?_
      exact ⟨.inr ⟨Hr.out, rfl⟩, (Below.refl _ _).alloc (Nat.le_refl _) _⟩
    · have h4i : (s.size : Int) ≤ 4000 := by omega
      obtain ⟨i0, hi, hy0, hz1, hz2⟩ := info_parts infoM
      obtain ⟨j0, hj, hj0, hj1, hj2⟩ := info_parts infoF
      have hplen := partsF_length 59 s.data.toList
      have hpne := partsF_ne 59 s.data.toList
      have hpmem := partsF_mem 59 s.data.toList
      have HG : Hid (∀ r, (partsF 59 s.data.toList).mapM readM = some r → Small r ∧ ∀ f, First r f → ((rawT r f = s.data.toList → Good s.data.toList r) ∧ (rawT r f ≠ s.data.toList → ∀ t, ¬ Good s.data.toList t))) := Lib.hid fun r hr => ⟨read_small hr (by omega), fun f hf => ⟨fun e => good_of hf e h0, fun e t ht => by
        have h1 := good_read ht h0
        rw [hr] at h1
        obtain rfl := Option.some.inj h1
        exact e (good_text hf ht)⟩⟩
      have HN0 : Hid ((partsF 59 s.data.toList).mapM readM = none → ∀ t, ¬ Good s.data.toList t) := Lib.hid fun hr t ht => by
        have h1 := good_read ht h0
        rw [hr] at h1
        cases h1
      have hb1 : Below w.heap.size w ((w.alloc (.cells #[.slice none 0 0] 26)).alloc (.cells #[.slice none 0 0] 26)) := ((Below.refl _ _).alloc (Nat.le_refl _) _).alloc (by simp) _
      have hx1 : Box ((w.alloc (.cells #[.slice none 0 0] 26)).alloc (.cells #[.slice none 0 0] 26)) w.heap.size [.slice none 0 0] := (Box.fresh _ _ _).alloc _
      have hr1 : Box ((w.alloc (.cells #[.slice none 0 0] 26)).alloc (.cells #[.slice none 0 0] 26)) (w.heap.size + 1) [.slice none 0 0] := by
        have h := Box.fresh (w.alloc (.cells #[.slice none 0 0] 26)) #[.slice none 0 0] 26
        rwa [show (w.alloc (.cells #[.slice none 0 0] 26)).heap.size = w.heap.size + 1 by simp] at h
      have HP := Lib.hid (specParts_any s 59 ((w.alloc (.cells #[.slice none 0 0] 26)).alloc (.cells #[.slice none 0 0] 26)) hs)
      rw [show ((59 : UInt8).toNat : Int) = 59 from rfl] at HP
      generalize hws : partsF 59 s.data.toList = ws at hplen hpne hpmem HP HG HN0
      have Hws := Lib.hid hws
      have hz1' : ((w.alloc (.cells #[.slice none 0 0] 26)).alloc (.cells #[.slice none 0 0] 26)).heap.size = w.heap.size + 1 + 1 := by simp
      clear hws
      go_enter Tryz.func11, Tryz.ntmps11
      go_wp2_with fail
      generalize (w.alloc (.cells #[.slice none 0 0] 26)).alloc (.cells #[.slice none 0 0] 26) = w1 at hb1 hx1 hr1 HP hz1' ⊢
      refine HP.out.mono ?_
      rintro e w2 ⟨v, P, rfl, hP, hown, hb2⟩
      rw [Hws.out] at hP
      obtain ⟨g, cap, rfl, hg, hS⟩ := slS_of (w := w) hown hP hpne
      have hl2 := hb1.trans (hb2.mono hb1.size)
      have HX2 := Lib.hid (hx1.below hb2 hx1.lt)
      have HR2 := Lib.hid (hr1.below hb2 hr1.lt)
      have hD2 : w.heap.size + 1 + 1 ≤ w2.heap.size := by have := hb2.size; omega
      have hn : ws.length ≤ 4001 := by omega
      have Hmem : Hid (∀ k (hk : k < ws.length), ws[k].length ≤ 4000) := Lib.hid fun k hk => by have := hpmem _ (List.getElem_mem hk); omega
      have HC := Lib.hid (cl_of hS hpne (Nat.le_refl _))
      have hgD : g < w2.heap.size := HC.out.1
      rw [hz1'] at hg
      clear hown hP hS HP hplen hpmem hsl Hws he hb1 hx1 hr1 hb2 h0 hz1' hpne
      go_wp2_with fail
      have HC2 := HC
      clear HC
      generalize hDe : w2.heap.size = D at HC2 hD2 hgD ⊢
      have hDz : D ≤ w2.heap.size := by omega
      clear hDe
      go_loopw [6] (fun y wr => ∃ (k : Nat) (ms : List OM) (vm : Value), k ≤ ws.length ∧ y = .int .i64 k ∧ Hid ((ws.take k).mapM readM = some (plain ms)) ∧ ms.length = k ∧ Hid (OwnRaw wr D 42 58 vm ms) ∧ Hid (CL wr g ws) ∧ Hid (Box wr w.heap.size [.slice none 0 0]) ∧ Hid (Box wr (w.heap.size + 1) [vm]) ∧ D ≤ wr.heap.size ∧ Below w.heap.size w wr) (fun y _ => ws.length - (intOf y).toNat)
      case atStart => exact ⟨0, [], _, by omega, rfl, Lib.hid (by simp [plain]), rfl, Lib.hid (OwnRaw.start _ _ _ _), HC2, HX2, HR2, hDz, hl2⟩
      case round =>
        clear HC2 HX2 HR2 hl2 hDz
        obtain ⟨k, ms, vm, hk, rfl, hrd, hmsl, hown, HC, HX, HR, hDz, hl⟩ := hrel
        by_cases hkl : k < ws.length
        · obtain ⟨wo, rfl⟩ : ∃ wo : World, wo = wr := ⟨_, rfl⟩
          have hkli : (k : Int) < (ws.length : Int) := by omega
          have q0 := HC.out.2 k hkl
          have hkm := Hmem.out k hkl
          have Hbad : Hid (readM ws[k] = none → ∀ t, ¬ Good s.data.toList t) := Lib.hid fun e => HN0.out (mapM_none k hkl e)
          have Hnext : Hid (∀ (m : OM), readM ws[k] = some (m.1, m.2.2) → (ws.take (k + 1)).mapM readM = some (plain (ms ++ [m]))) := Lib.hid fun m e => by
            rw [List.take_succ_eq_append_getElem hkl, mapM_snoc hrd.out e]
            simp [plain]
          generalize ws[k] = W at q0 hkm Hbad Hnext
          obtain ⟨sW, esW⟩ : ∃ S : ByteArray, S = ⟨W.toArray⟩ := ⟨_, rfl⟩
          rw [← esW] at q0
          have HW : Hid (sW.data.toList = W) := Lib.hid (by rw [esW])
          have hsz : sW.size ≤ 1048576 := by have : sW.size = W.length := by rw [esW]; simp [ByteArray.size]
                                             omega
          have h2ne := partsF_ne 58 W
          have h2mem := partsF_mem 58 W
          clear esW
          go_wp2_with fail
          refine (specParts_any sW 58 _ hsz).mono ?_
          rintro e w3 ⟨v2, P2, rfl, hP2, hown2, hb3⟩
          rw [HW.out] at hP2
          have hr2 : ∀ m, readM W = some m → (partsF 58 W).length = 2 := fun m h => by
            unfold readM at h
            split at h
            · rename_i e; rw [e]; rfl
            · cases h
          have H2 : ∀ A B, partsF 58 W = [A, B] → readM W = if B = [] then some (((parse 999999999 A).1 : Int), []) else (((partsF 44 B).mapM readF).map fun l => (((parse 999999999 A).1 : Int), l)) := fun A B h => readM_two h
          generalize partsF 58 W = U at hP2 h2ne h2mem hr2 H2
          obtain ⟨g2, cap2, rfl, hg2, hS2⟩ := slS_of (w := w) hown2 hP2 h2ne
          have HC2 := Lib.hid (cl_of hS2 h2ne (Nat.le_refl _))
          have hown3 := Lib.hid (hown.out.below hb3)
          have HX3 := Lib.hid (HX.out.below hb3 HX.out.lt)
          have HR3 := Lib.hid (HR.out.below hb3 HR.out.lt)
          have HC3 := Lib.hid (HC.out.below hb3 HC.out.1)
          have hl3 := hl.trans (hb3.mono hl.size)
          have hDz3 : D ≤ w3.heap.size := Nat.le_trans hDz hb3.size
          clear hown2 hP2 hS2 hb3 HX HR HC hl q0 hown h2ne
          by_cases hU2 : U.length = 2
          · obtain ⟨A, B, rfl⟩ : ∃ A B, U = [A, B] := by
              match U, hU2 with
              | [A, B], _ => exact ⟨A, B, rfl⟩
            have HM := Lib.hid (H2 A B rfl)
            have hA := h2mem A (by simp)
            have hB := h2mem B (by simp)
            have qA := HC2.out.2 0 (by simp)
            have qB := HC2.out.2 1 (by simp)
            simp only [List.getElem_cons_zero, List.getElem_cons_succ] at qA qB
            have hU0 : (([A, B] : List (List UInt8)).length : Int) = 2 := rfl
            rw [show ([A, B] : List (List UInt8)).length = 2 from rfl]
            obtain ⟨sA, esA⟩ : ∃ S : ByteArray, S = ⟨A.toArray⟩ := ⟨_, rfl⟩
            obtain ⟨sB, esB⟩ : ∃ S : ByteArray, S = ⟨B.toArray⟩ := ⟨_, rfl⟩
            rw [← esA] at qA
            rw [← esB] at qB
            have HA : Hid (sA.data.toList = A) := Lib.hid (by rw [esA])
            have HB : Hid (sB.data.toList = B) := Lib.hid (by rw [esB])
            have hsA : sA.size ≤ 1048576 := by have : sA.size = A.length := by rw [esA]; simp [ByteArray.size]
                                               omega
            have hsB : sB.size ≤ 1048576 := by have : sB.size = B.length := by rw [esB]; simp [ByteArray.size]
                                               omega
            obtain ⟨n, hn'⟩ : ∃ n : Int, ((parse 999999999 A).1 : Int) = n := ⟨_, rfl⟩
            obtain ⟨nb, hnb⟩ : ∃ b, (parse 999999999 A).2 = b := ⟨_, rfl⟩
            rw [hn'] at HM
            have HNum : Hid (∀ wx, Calls Tryz.prog 27 #[.string sA] wx fun e w' => e = .returned (.tuple #[.int .i64 n, .bool nb]) ∧ Below wx.heap.size wx w') := Lib.hid fun wx => by
              have h := specNumber_any sA wx (by omega)
              rw [HA.out, hn', hnb] at h
              exact h
            clear H2 h2mem hr2 hU2 esA esB hn' hnb
            have hb4 : Below w3.heap.size w3 (w3.alloc (.cells #[.int .i64 0, .slice none 0 0] 42)) := (Below.refl _ _).alloc (Nat.le_refl _) _
            have hm4 := Box.fresh w3 #[.int .i64 0, .slice none 0 0] 42
            have hg23 : g2 < w3.heap.size := HC2.out.1
            go_upto_region 14 with fail
            generalize (w3.alloc (.cells #[.int .i64 0, .slice none 0 0] 42)) = w4 at hb4 hm4 ⊢
            have qA4 := (hb4.cell (p := ⟨g2, 0, none⟩) hg23).trans qA
            go_wp2_with fail
            refine (HNum.out _).mono ?_
            rintro e w5 ⟨rfl, hb5⟩
            have hm5 := hm4.below hb5 hm4.lt
            have hb35 := hb4.trans (hb5.mono hb4.size)
            obtain ⟨m0, m1, mf0, mf1⟩ := hm5.two
            have hm6 := hm5.set 0 (.int .i64 n)
            have hb36 := hb35.setCell (p := ⟨w3.heap.size, 0, none⟩) (by simp) (.int .i64 n)
            clear hb4 hm4 qA4 hb5 HNum
            go_upto_region 15 with fail
            generalize (w5.setCell ⟨w3.heap.size, 0, none⟩ (.int .i64 n)) = w6 at hm6 hb36 ⊢
            clear hm5 hb35 m0 m1 mf0 mf1
            have qB6 := (hb36.cell (p := ⟨g2, 1, none⟩) hg23).trans qB
            have h3len := partsF_length 44 B
            have h3ne := partsF_ne 44 B
            have h3mem := partsF_mem 44 B
            go_wp2_with fail
            refine (specParts_any sB 44 _ hsB).mono ?_
            rintro e w7 ⟨v3, P3, rfl, hP3, hown3', hb7⟩
            rw [HB.out] at hP3
            generalize partsF 44 B = V at HM hP3 h3len h3ne h3mem
            obtain ⟨g3, cap3, rfl, hg3, hS3⟩ := slS_of (w := w) hown3' hP3 h3ne
            have HC7 := Lib.hid (cl_of hS3 h3ne (Nat.le_refl _))
            have hm7 := Lib.hid (hm6.below hb7 hm6.lt)
            have hb37 := hb36.trans (hb7.mono hb36.size)
            have hz37 : w3.heap.size < w7.heap.size := hm7.out.lt
            have hg37 : g3 < w7.heap.size := HC7.out.1
            have hV : V.length ≤ 4001 := by omega
            have Hmem3 : Hid (∀ q (hq : q < V.length), V[q].length ≤ 4000) := Lib.hid fun q hq => by have := h3mem _ (List.getElem_mem hq); omega
            have Hg3 : Hid (w6.heap.size ≤ g3) := Lib.hid hg3
            have hg3w : w3.heap.size < g3 := by have := hm6.lt; omega
            clear hown3' hP3 hS3 hb7 h3ne h3mem h3len hm6 hb36 qB6 qA qB hg3
            obtain ⟨w7', hw7'⟩ : ∃ x, x = w7.heap.size := ⟨_, rfl⟩
            go_wp2_with fail
            go_loopw [10] (fun y wr => ∃ (q : Nat) (fs : List RF) (vf : Value), q ≤ V.length ∧ y = .int .i64 q ∧ (B = [] → q = 0) ∧ Hid ((V.take q).mapM readF = some fs) ∧ fs.length = q ∧ Hid (wr.ownsRow w7' 58 5 vf q (fs.flatMap fieldC)) ∧ Hid (CL wr g3 V) ∧ Hid (Box wr w3.heap.size [.int .i64 n, vf]) ∧ w7' ≤ wr.heap.size ∧ Below w3.heap.size w3 wr) (fun y _ => V.length - (intOf y).toNat)
            case atStart => exact ⟨0, [], _, by omega, rfl, fun _ => rfl, Lib.hid (by simp), rfl, Lib.hid (World.ownsRow_nil _ _ _ _), HC7, hm7, by omega, hb37⟩
            case round =>
              clear HC7 hm7 hb37
              obtain ⟨q, fs, vf, hq, rfl, hB0, hfr, hfl, hrow, HCV, hbx, hzz, hbz⟩ := hrel
              have qB1 := (hbz.cell (p := ⟨g2, 1, none⟩) hg23).trans (HC2.out.2 1 (by simp))
              simp only [List.getElem_cons_succ, List.getElem_cons_zero] at qB1
              obtain ⟨m0, m1, mf0, mf1⟩ := hbx.out.two
              obtain ⟨sC, esC⟩ : ∃ S : ByteArray, S = ⟨B.toArray⟩ := ⟨_, rfl⟩
              rw [← esC] at qB1
              have hCB : sC.toList = B := by rw [ByteArray.toList_eq, esC]
              clear esC
              by_cases hgo : q < V.length ∧ B ≠ []
              · obtain ⟨hqn, hBne⟩ := hgo
                have hqi : (q : Int) < (V.length : Int) := by omega
                have hBe : sC.toList.isEmpty = false := by rw [hCB]; simpa using hBne
                have qV := HCV.out.2 q hqn
                have hvm := Hmem3.out q hqn
                have HMn : Hid (readF V[q] = none → readM W = none) := Lib.hid fun e => by
                  rw [HM.out, if_neg hBne, mapM_none q hqn e]
                  rfl
                have Hfn : Hid (∀ f, readF V[q] = some f → (V.take (q + 1)).mapM readF = some (fs ++ [f])) := Lib.hid fun f e => by
                  rw [List.take_succ_eq_append_getElem hqn, mapM_snoc hfr.out e]
                generalize V[q] = Z at qV hvm HMn Hfn
                obtain ⟨sZ, esZ⟩ : ∃ S : ByteArray, S = ⟨Z.toArray⟩ := ⟨_, rfl⟩
                rw [← esZ] at qV
                have hsZ : sZ.size ≤ 1048576 := by have : sZ.size = Z.length := by rw [esZ]; simp [ByteArray.size]
                                                   omega
                have HRF := Lib.hid (fun wx => specReadField_any sZ wx hsZ)
                rw [show sZ.data.toList = Z by rw [esZ]] at HRF
                obtain ⟨R, hR⟩ : ∃ R, readF Z = R := ⟨_, rfl⟩
                rw [hR] at HRF HMn
                have HRz := Lib.hid hR
                clear esZ hsZ hvm hR hCB
                go_wp2_with fail
                refine (HRF.out _).mono ?_
                rintro e w9 ⟨rfl, hb9⟩
                have hbz9 := hbz.trans (hb9.mono hbz.size)
                have hbx9 := Lib.hid (hbx.out.below hb9 hbx.out.lt)
                have hrow9 := Lib.hid (ownsRow_below hrow.out hb9 fun k hk => (World.ownsRow.lt hrow.out k hk).2)
                have HCV9 := Lib.hid (HCV.out.below hb9 HCV.out.1)
                have hzz9 : w7' ≤ w9.heap.size := Nat.le_trans hzz hb9.size
                clear hrow hbx HCV hbz hzz hb9 HRF qB1 qV m0 m1 mf0 mf1
                cases R with
                | none =>
                  have Hr : Hid (∀ t, ¬ Good s.data.toList t) := Lib.hid (Hbad.out (HMn.out rfl))
                  have hx9 := HX3.out.below hbz9 HX3.out.lt
                  have hl9 := hl3.trans (hbz9.mono hl3.size)
                  simp only [Option.getD_none, Option.isSome_none]
                  unfold fieldV zeroF
                  simp only
                  have hb10 : Below w9.heap.size w9 (w9.alloc (.cells #[.int .i64 0, .int .i64 0, .bool false, .bool false, .int .i64 0] 58)) := (Below.refl _ _).alloc (Nat.le_refl _) _
                  have hx10 := hx9.below hb10 hx9.lt
                  have hl10 := hl9.trans (hb10.mono hl9.size)
                  clear HMn Hfn Hbad Hnext hrd hown3 HX3 HR3 HC3 HC2 hx9 hb10 hl9
                  go_upto_region 20 with fail
                  generalize (w9.alloc (.cells #[.int .i64 0, .int .i64 0, .bool false, .bool false, .int .i64 0] 58)) = w10 at hx10 hl10 ⊢
                  obtain ⟨x0, xf0⟩ := hx10.one
                  have hx11 := hx10.set 0 (.slice none 0 0)
                  have hl11 := hl10.setCell (p := ⟨w.heap.size, 0, none⟩) (by simp) (.slice none 0 0)
                  go_wp2_with fail
                  generalize (w10.setCell ⟨w.heap.size, 0, none⟩ (.slice none 0 0)) = w11 at hx11 hl11 ⊢
                  obtain ⟨y0, _⟩ := hx11.one
                  refine bodyPost_ret (v := .tuple #[.agg #[.slice none 0 0], .bool false]) (by simp [results, Tryz.results11, go_sem, y0]) rfl ?_
                  exact ⟨.inr ⟨Hr.out, rfl⟩, hl11⟩
                | some f =>
                  have Hf2 := Lib.hid (Hfn.out f HRz.out)
                  simp only [Option.getD_some, Option.isSome_some]
                  have HFC : Hid (fs.flatMap fieldC ++ fieldC f = (fs ++ [f]).flatMap fieldC) := Lib.hid (by simp)
                  have HFl : Hid ((fs ++ [f]).length = q + 1) := Lib.hid (by simp [hfl])
                  generalize fs ++ [f] = fs1 at Hf2 HFC HFl
                  obtain ⟨A1, A2, A3, A4, A5⟩ := f
                  unfold fieldV
                  simp only
                  have hb10 : Below w9.heap.size w9 (w9.alloc (.cells #[.int .i64 A1, .int .i64 A2, .bool A3, .bool A4, .int .i64 A5] 58)) := (Below.refl _ _).alloc (Nat.le_refl _) _
                  have hbf := Box.fresh w9 #[.int .i64 A1, .int .i64 A2, .bool A3, .bool A4, .int .i64 A5] 58
                  have hbz10 := hbz9.trans (hb10.mono hbz9.size)
                  have hbx10 := Lib.hid (hbx9.out.below hb10 hbx9.out.lt)
                  have hrow10 := Lib.hid (ownsRow_below hrow9.out hb10 fun k hk => (World.ownsRow.lt hrow9.out k hk).2)
                  have HCV10 := Lib.hid (HCV9.out.below hb10 HCV9.out.1)
                  have hzz10 : w7' ≤ (w9.alloc (.cells #[.int .i64 A1, .int .i64 A2, .bool A3, .bool A4, .int .i64 A5] 58)).heap.size := Nat.le_trans hzz9 hb10.size
                  clear hbz9 hbx9 hrow9 HCV9 hzz9 hb10 HMn Hfn HRz hfr
                  go_upto_region 22 with fail
                  generalize (w9.alloc (.cells #[.int .i64 A1, .int .i64 A2, .bool A3, .bool A4, .int .i64 A5] 58)) = w10 at hbf hbz10 hbx10 hrow10 HCV10 hzz10 ⊢
                  obtain ⟨b0, b1, b2, b3, b4⟩ := Box.five' hbf
                  obtain ⟨m0, m1, mf0, mf1⟩ := hbx10.out.two
                  have hnew : (w10.alloc (.cells #[.int .i64 A1, .int .i64 A2, .bool A3, .bool A4, .int .i64 A5] 58)).heap[w10.heap.size]? = some (.cells #[.int .i64 A1, .int .i64 A2, .bool A3, .bool A4, .int .i64 A5] 58 (0, 0)) := heap_alloc_new _ _
                  have hmz : w3.heap.size < w10.heap.size := hbx10.out.lt
                  go_wp2_with (at_builtin; refine wpList_append_lies _ (by rfl) (.tmp 75) (.tmp 77) 40 (by rfl) w7' 58 j0 _ 5 32 Tryz.underlying40 hj hj0 hj1 hj2 (by rfl) (by omega) vf _ _ (by rfl) (World.ownsRow.alloc hrow10.out _) ⟨w10.heap.size, 0, none⟩ 1 1 [.int .i64 A1, .int .i64 A2, .bool A3, .bool A4, .int .i64 A5] (by rfl) (by rfl) (fun j u hj => World.news_of_block hnew j u hj) (by intro u hu; simp at hu; rcases hu with rfl | rfl | rfl | rfl | rfl <;> rfl) (by omega) (by unfold maxLen; omega) (by omega) (by simp; omega) (w10.heap.size + 1) (by simp) ?_; intro g' cap' w11 hown11 hg11 hor11 hlt11; have hb11 := Lib.hid (Box.grown hg11 (hbx10.out.alloc _) (fun k hk => by have := (World.ownsRow.lt hrow10.out k hk).1; omega)); obtain ⟨n0, n1, k0, k1⟩ := Box.two hb11.out)
                  have Hrow2 : Hid (w11.ownsRow w7' 58 5 (.slice (some ⟨g', 0, none⟩) (q + 1) cap') (q + 1) (fs1.flatMap fieldC)) := Lib.hid (by rw [← HFC.out]; exact hown11)
                  have hne2 : w7' ≤ g' := (World.ownsRow.lt hown11 g' rfl).1
                  have hbD : Below w7' w10 w11 := ((Below.refl _ _).alloc hzz10 _).grown hg11 (by simp; omega) (fun k hk => by have := (World.ownsRow.lt hrow10.out k hk).1; omega)
                  have HCV11 := Lib.hid (HCV10.out.below hbD (by omega))
                  have Hb3 : Hid (Below w3.heap.size w3 w11) := Lib.hid ((hbz10.alloc (by omega) _).grown hg11 (by simp; omega) (fun k hk => by have := (World.ownsRow.lt hrow10.out k hk).1; omega))
                  have hz11 : w7' ≤ w11.heap.size := Nat.le_trans hzz10 hbD.size
                  clear hown11 hg11 hor11 hnew hbD HFC
                  go_roundw
                  case rel => exact ⟨q + 1, fs1, _, by omega, by go_num, fun e => absurd e hBne, Hf2, HFl.out, Lib.hid (ownsRow_setCell_other Hrow2.out (a := ⟨w3.heap.size, 1, none⟩) (by simp [Value.ownBlock]; omega) _), Lib.hid (HCV11.out.other (by simp; omega) _), Lib.hid (hb11.out.set 1 _), by simpa [World.setCell] using hz11, Hb3.out.setCell (by simp) _⟩
                  case measure => simp [intOf]; omega
              · subst hfl
                have HMd : Hid (readM W = some (n, fs)) := Lib.hid (by
                  rw [HM.out]
                  by_cases hBn : B = []
                  · rw [if_pos hBn, List.length_eq_zero_iff.1 (hB0 hBn)]
                  · rw [if_neg hBn]
                    have he : fs.length = V.length := by
                      by_cases hqn : fs.length < V.length
                      · exact absurd ⟨hqn, hBn⟩ hgo
                      · omega
                    have h := hfr.out
                    rw [he, List.take_length] at h
                    rw [h]
                    rfl)
                have hor : ((fs.length : Int) < (V.length : Int) ∧ sC.toList.isEmpty = true) ∨ ((V.length : Int) ≤ (fs.length : Int) ∧ decide (fs.length < V.length) = false) := by
                  by_cases hqn : fs.length < V.length
                  · refine .inl ⟨by omega, ?_⟩
                    have hBn : B = [] := Classical.byContradiction fun e => hgo ⟨hqn, e⟩
                    rw [hCB, hBn]; rfl
                  · exact .inr ⟨by omega, decide_eq_false hqn⟩
                have Hnx := Lib.hid (Hnext.out (n, vf, fs) HMd.out)
                obtain ⟨af, cf, rfl⟩ := ownsRow_form hrow.out
                have hD3 : w.heap.size + 1 < w3.heap.size := by omega
                have HR1 := Lib.hid (HR3.out.below hbz hD3)
                have HX1 := Lib.hid (HX3.out.below hbz HX3.out.lt)
                have HC1 := Lib.hid (HC3.out.below hbz HC3.out.1)
                have HL1 := Lib.hid (hl3.trans (hbz.mono hl3.size))
                have Hown1 := Lib.hid (hown3.out.below hbz)
                obtain ⟨o1, of1⟩ := HR1.out.one
                have Hap : Hid (∀ k, (Value.slice af fs.length cf).ownBlock = some k → w3.heap.size < k) := Lib.hid fun k hk => by have := (World.ownsRow.lt hrow.out k hk).1; omega
                have Hms : Hid (∀ i (hi : i < ms.length) k, ms[i].2.1.ownBlock = some k → k < w3.heap.size) := Lib.hid fun i hi k hk => (World.ownsRow.lt (hown3.out.fields i hi) k hk).2
                have Hvm : Hid (∀ k, vm.ownBlock = some k → D ≤ k ∧ k < w3.heap.size) := Lib.hid fun k hk => World.ownsRow.lt hown3.out.row k hk
                have Hu : Hid (FOwn wr D 58 (n, .slice af fs.length cf, fs)) := Lib.hid (ownsRow_base hrow.out (by omega))
                have hnew : (wr.alloc (.cells #[.int .i64 n, .slice af fs.length cf] 42)).heap[wr.heap.size]? = some (.cells #[.int .i64 n, .slice af fs.length cf] 42 (0, 0)) := heap_alloc_new _ _
                have hrz : w3.heap.size < wr.heap.size := hbx.out.lt
                have hml : ms.length ≤ 4001 := by omega
                clear hgo hB0 hfr HMd Hnext Hbad hrow HCV hbx hrd hCB HM HX3 HR3 HC3 hown3 HC2 hbz hl3
                rcases hor with ⟨hq1, hq2⟩ | ⟨hq1, hq2⟩
                all_goals
                  go_wp2_with (at_builtin; refine wpList_append_lies _ (by rfl) (.tmp 81) (.tmp 83) 24 (by rfl) D 42 i0 _ 2 32 Tryz.underlying24 hi hy0 hz1 hz2 (by rfl) (by omega) vm _ _ (by rfl) (World.ownsRow.alloc Hown1.out.row _) ⟨wr.heap.size, 0, none⟩ 1 1 [.int .i64 n, .slice af fs.length cf] (by rfl) (by rfl) (fun j u hj => World.news_of_block hnew j u hj) (by intro u hu; simp at hu; rcases hu with rfl | rfl <;> rfl) (by omega) (by unfold maxLen; omega) (by omega) (by simp; omega) (wr.heap.size + 1) (by simp) ?_; intro g' cap' w11 hown11 hg11 hor11 hlt11; have hb11 := Lib.hid (Box.grown hg11 (HR1.out.alloc _) (fun k hk => by have := (Hvm.out k hk).1; omega)); obtain ⟨n0, n1⟩ := Box.one hb11.out)
                  have Hpush := Lib.hid (OwnRaw.pushWith (Hown1.out.alloc _) (by simp; omega) (World.ownsRow.alloc Hu.out _) (fun i hi => (apart_of (Hms.out i hi) Hap.out).1) (fun i hi => (apart_of (Hms.out i hi) Hap.out).2) (apart_of (fun k hk => (Hvm.out k hk).2) Hap.out).2 hown11 hg11 (by
                    rcases hor11 with h | h
                    · left; rw [h]; rfl
                    · right; rw [h]; simp [Value.ownBlock]))
                  have Hl11 : Hid (Below w.heap.size w w11) := Lib.hid ((HL1.out.alloc (by omega) _).grown hg11 (by simp; omega) (fun k hk => by have := (Hvm.out k hk).1; omega))
                  have HX11 := Lib.hid (Box.grown hg11 (HX1.out.alloc _) (fun k hk => by have := (Hvm.out k hk).1; omega))
                  have hbD : Below D wr w11 := ((Below.refl _ _).alloc (by omega) _).grown hg11 (by simp; omega) (fun k hk => by have := (Hvm.out k hk).1; omega)
                  have HC11 := Lib.hid (HC1.out.below hbD hgD)
                  have hD11 : D ≤ w11.heap.size := by have := hbD.size; omega
                  have hO := Hpush.out.out (k := w.heap.size + 1) (by omega)
                  have HF := Lib.hid (Hpush.out.other (p := ⟨w.heap.size + 1, 0, none⟩) (.slice (some ⟨g', 0, none⟩) (ms.length + 1) cap') hO.1 hO.2)
                  rw [hmsl] at HF
                  clear hown11 hg11 hor11 hnew hO hbD
                  go_roundw
                  case rel => exact ⟨k + 1, _, _, by omega, by go_num, Hnx.out, by simp; omega, HF, Lib.hid (HC11.out.other (by simp; omega) _), Lib.hid (HX11.out.other (by simp) _), Lib.hid (hb11.out.set 0 _), by simpa [World.setCell] using hD11, Hl11.out.setCell (by simp) _⟩
                  case measure => simp [intOf]; omega
          · have Hr : Hid (∀ t, ¬ Good s.data.toList t) := Lib.hid (Hbad.out (by
              cases e : readM W with
              | none => rfl
              | some m => exact absurd (hr2 m e) hU2))
            have hne : ((U.length : Int) != 2) = true := by rw [bne_iff_ne]; omega
            have hne' : ((U.length : Int) == 2) = false := by rw [beq_eq_false_iff_ne]; omega
            obtain ⟨x0, xf0⟩ := HX3.out.one
            have hx8 := HX3.out.set 0 (.slice none 0 0)
            have hl8 := hl3.setCell (p := ⟨w.heap.size, 0, none⟩) (by simp) (.slice none 0 0)
            clear Hbad Hnext hr2 H2 h2mem
            go_wp2_with fail
            generalize (w3.setCell ⟨w.heap.size, 0, none⟩ (.slice none 0 0)) = w8 at hx8 hl8 ⊢
            obtain ⟨y0, _⟩ := hx8.one
            refine bodyPost_ret (v := .tuple #[.agg #[.slice none 0 0], .bool false]) (by simp [results, Tryz.results11, go_sem, y0]) rfl ?_
            exact ⟨.inr ⟨Hr.out, rfl⟩, hl8⟩
        · have hge : (ws.length : Int) ≤ (k : Int) := by omega
          have hend : decide (k < ws.length) = false := decide_eq_false hkl
          obtain rfl : k = ws.length := by omega
          have hrd' := hrd.out
          rw [List.take_length] at hrd'
          obtain ⟨hSm, hF⟩ := HG.out (plain ms) hrd'
          have HF := Lib.hid hF
          have hraw := hown.out.rawAt
          obtain ⟨am, cm, rfl⟩ := ownsRow_form hown.out.row
          have HRaw := Lib.hid hraw
          have HT := Lib.hid (specRawText_any _ (plain ms) wr (hraw.keep (fun _ _ _ => rfl) fun b hb => hb.2) hSm)
          obtain ⟨r0, _⟩ := HR.out.one
          rw [hmsl] at HT HRaw
          clear hrd hrd' HN0 HG hF hraw hown HC
          go_wp2_with fail
          refine HT.out.mono ?_
          rintro e w6 ⟨f, hf, rfl, hb6⟩
          obtain ⟨hg1, hg2⟩ := HF.out f hf
          have HX6 := Lib.hid (HX.out.below hb6 HX.out.lt)
          have HR6 := Lib.hid (HR.out.below hb6 HR.out.lt)
          have hl6 := hl.trans (hb6.mono hl.size)
          have hz6 := hb6.size
          have hraw6 := HRaw.out.keep (.of_below hb6 fun b hb => hb.2) fun _ h => h
          have HRaw6 := Lib.hid hraw6
          generalize rawT (plain ms) f = T at hg1 hg2 ⊢
          obtain ⟨sT, esT⟩ : ∃ S : ByteArray, S = ⟨T.toArray⟩ := ⟨_, rfl⟩
          rw [← esT]
          clear hf HX HR hl hb6 HRaw hraw6 HF r0 HT
          obtain ⟨x0, xf0⟩ := HX6.out.one
          obtain ⟨r0, _⟩ := HR6.out.one
          by_cases hc : T = s.data.toList
          · obtain rfl : sT = s := by rw [esT, hc]
            have HG1 := Lib.hid (hg1 hc)
            have hbe : (sT.toList != sT.toList) = false := by simp
            have hx8 := HX6.out.set 0 (.slice am ws.length cm)
            have hl8 := hl6.setCell (p := ⟨w.heap.size, 0, none⟩) (by simp) (.slice am ws.length cm)
            have HRaw8 := Lib.hid (HRaw6.out.keep (Kept.of_set (p := ⟨w.heap.size, 0, none⟩) (.slice am ws.length cm) (by simp; omega)) fun _ h => h)
            have hz8 : (w6.setCell ⟨w.heap.size, 0, none⟩ (.slice am ws.length cm)).heap.size = w6.heap.size := by simp [World.setCell]
            clear hg1 hg2 hc esT
            go_wp2_with fail
            generalize (w6.setCell ⟨w.heap.size, 0, none⟩ (.slice am ws.length cm)) = w8 at hx8 hl8 HRaw8 hz8 ⊢
            obtain ⟨y0, _⟩ := hx8.one
            refine bodyPost_ret (v := .tuple #[.agg #[.slice am ws.length cm], .bool true]) (by simp [results, Tryz.results11, go_sem, y0]) rfl ?_
            exact ⟨.inl ⟨plain ms, _, HG1.out, rfl, HRaw8.out.keep (fun _ _ _ => rfl) fun b hb => ⟨by omega, by omega⟩⟩, hl8⟩
          · have HG2 := Lib.hid (hg2 hc)
            have hbn : ¬ (sT.toList = s.toList) := by
              rw [ByteArray.toList_eq, ByteArray.toList_eq, esT]
              simpa using hc
            have hbe : (sT.toList != s.toList) = true := by rw [bne_iff_ne]; exact hbn
            have hbf : (sT.toList == s.toList) = false := by rw [beq_eq_false_iff_ne]; exact hbn
            have hx8 := HX6.out.set 0 (.slice none 0 0)
            have hl8 := hl6.setCell (p := ⟨w.heap.size, 0, none⟩) (by simp) (.slice none 0 0)
            clear hg1 hg2 hc esT
            go_wp2_with fail
            generalize (w6.setCell ⟨w.heap.size, 0, none⟩ (.slice none 0 0)) = w8 at hx8 hl8 ⊢
            obtain ⟨y0, _⟩ := hx8.one
            refine bodyPost_ret (v := .tuple #[.agg #[.slice none 0 0], .bool false]) (by simp [results, Tryz.results11, go_sem, y0]) rfl ?_
            exact ⟨.inr ⟨HG2.out, rfl⟩, hl8⟩
end Go.Proofs.YtcbohfncckpolaaGreatDoor.Num

/-
  The walks of the program's hasId and hasNumber, which ask slices.ContainsFunc with a closure: whether a message has this Id, or a field this Number; only new memory is written.
-/
namespace Go.Proofs.YtcbohfncckpolaaGreatDoor.Num
open Go.RowKit Go.Proofs
set_option linter.unusedVariables false
set_option linter.unusedSimpArgs false

theorem eqB2 (x : Int) : (x == x) = true := by rw [beq_iff_eq]
/-- The closure that hasId hands over: whether the message has the captured Id. -/
theorem isIdF_any (x id : Int) (a : Option Addr) (n c : Nat) (g : Nat) (R : Bool) (w : World) (hg : Box w g [.int .i64 id]) (tell : (x == id) = R) :
    Calls Tryz.prog 107 #[.agg #[.int .i64 x, .slice a n c], .pointer (some ⟨g, 0, none⟩)] w fun e w' => e = .returned (.bool R) ∧ Below w.heap.size w w' := by
  have hz := hg.lt
  have hb : Below w.heap.size w (w.alloc (.cells #[.int .i64 x, .slice a n c] 42)) := (Below.refl _ _).alloc (Nat.le_refl _) _
  obtain ⟨c0, _⟩ := (hg.below hb hz).one
  go_enter Tryz.func107, Tryz.ntmps107
  go_wp2_with fail
  go_ret
  exact ⟨rfl, hb⟩
theorem isNumF_any (f : RF) (x : Int) (g : Nat) (R : Bool) (w : World) (hg : Box w g [.int .i64 x]) (tell : (f.1 == x) = R) :
    Calls Tryz.prog 109 #[fieldV f, .pointer (some ⟨g, 0, none⟩)] w fun e w' => e = .returned (.bool R) ∧ Below w.heap.size w w' := by
  obtain ⟨A1, A2, A3, A4, A5⟩ := f
  unfold fieldV
  simp only at tell ⊢
  have hz := hg.lt
  have hb : Below w.heap.size w (w.alloc (.cells #[.int .i64 A1, .int .i64 A2, .bool A3, .bool A4, .int .i64 A5] 58)) := (Below.refl _ _).alloc (Nat.le_refl _) _
  obtain ⟨c0, _⟩ := (hg.below hb hz).one
  go_enter Tryz.func109, Tryz.ntmps109
  go_wp2_with fail
  go_ret
  exact ⟨rfl, hb⟩
set_option maxHeartbeats 2000000 in
theorem idxId_any (v : Value) (l : List RM) (x : Int) (g : Nat) (R : Bool) (w : World) (S : Nat → Prop) (hS : ∀ b, S b → b < w.heap.size) (hv : MsgsAt w S v l) (hl : l.length ≤ 1048576) (hg : Box w g [.int .i64 x]) (tell : hasId l x l.length = R) :
    Calls Tryz.prog 122 #[v, .func (.func 107) #[] #[.pointer (some ⟨g, 0, none⟩)]] w fun e w' => (∃ i : Int, ((R = true ∧ 0 ≤ i) ∨ (R = false ∧ i = -1)) ∧ e = .returned (.int .i64 i)) ∧ Below w.heap.size w w' := by
  have HR := Lib.hid tell
  have HG := Lib.hid hg
  have HS := Lib.hid hS
  clear tell hg hS
  obtain ⟨a, cap, rfl⟩ := hv.len
  have H := Lib.hid hv
  clear hv
  go_enter Tryz.func122, Tryz.ntmps122
  go_wp2_with fail
  go_loopw [8] (fun i wr => ∃ k : Nat, k ≤ l.length ∧ i = .int .i64 k ∧ Hid (∀ j (hj : j < l.length), j < k → l[j].1 ≠ x) ∧ Below w.heap.size w wr) (fun i _ => l.length - (intOf i).toNat)
  case atStart => exact ⟨0, by omega, rfl, Lib.hid fun j _ hj => by omega, Below.refl _ _⟩
  case round =>
    obtain ⟨k, hk, rfl, hno, hbr⟩ := hrel
    by_cases hlt : k < l.length
    · have hlti : (k : Int) < (l.length : Int) := by omega
      obtain ⟨b, o, c, hv, hbS, hcs⟩ := H.out.cells (by omega)
      obtain ⟨rfl, rfl⟩ : a = some ⟨b, o, none⟩ ∧ cap = c := by injection hv with e1 e2 e3; exact ⟨e1, e3⟩
      have hbC := HS.out _ hbS
      have hbw : b < wr.heap.size := Nat.lt_of_lt_of_le hbC hbr.size
      have hgr := HG.out.below hbr HG.out.lt
      obtain ⟨Q, hQ⟩ : ∃ Q, (l[k].1 == x) = Q := ⟨_, rfl⟩
      have Hyes : Hid (Q = true → R = true) := Lib.hid fun h => by
        have e : l[k].1 = x := by rw [h] at hQ; exact beq_iff_eq.1 hQ
        rw [← HR.out]; exact hasId_yes (n := l.length) hlt hlt e
      have Hn : Hid (Q = false → ∀ j (hj : j < l.length), j < k + 1 → l[j].1 ≠ x) := Lib.hid fun h j hj hjk => by
        by_cases e : j = k
        · subst e; rw [h] at hQ; exact beq_eq_false_iff_ne.1 hQ
        · exact hno.out j hj (by omega)
      obtain ⟨u, d0, d1, hx⟩ := hcs k hlt
      obtain ⟨xa, xc, rfl⟩ := hx.len
      rw [← hbr.cell (p := ⟨b, _, none⟩) hbC] at d0 d1
      have Hc := Lib.hid (isIdF_any l[k].1 x xa l[k].2.length xc g Q wr hgr hQ)
      clear hcs hv hx hno hQ hbS hgr
      generalize l[k] = m at d0 d1 Hc
      obtain ⟨y, fs⟩ := m
      simp only at d0 d1 Hc
      go_wp2_with fail
      refine Hc.out.mono ?_
      rintro e w2 ⟨rfl, hb2⟩
      have hb3 := hbr.trans (hb2.mono hbr.size)
      clear hb2
      cases Q with
      | true =>
        have hR := Hyes.out rfl
        clear Hyes Hn
        go_wp2_with fail
        go_ret
        exact ⟨⟨k, .inl ⟨hR, by omega⟩, rfl⟩, hb3⟩
      | false =>
        have Hn' := Lib.hid (Hn.out rfl)
        clear Hyes Hn
        go_wp2_with fail
        go_roundw
        case rel => exact ⟨k + 1, by omega, by go_num, Hn', hb3⟩
        case measure => simp [intOf]; omega
    · have hge : (l.length : Int) ≤ (k : Int) := by omega
      have hend : decide (k < l.length) = false := decide_eq_false hlt
      have hR : R = false := by rw [← HR.out]; exact hasId_no (n := l.length) fun j hj hjn => hno.out j hj (by omega)
      go_wp2_with fail
      go_ret
      exact ⟨⟨-1, .inr ⟨hR, rfl⟩, rfl⟩, hbr⟩
theorem containsId_any (v : Value) (l : List RM) (x : Int) (g : Nat) (R : Bool) (w : World) (S : Nat → Prop) (hS : ∀ b, S b → b < w.heap.size) (hv : MsgsAt w S v l) (hl : l.length ≤ 1048576) (hg : Box w g [.int .i64 x]) (tell : hasId l x l.length = R) :
    Calls Tryz.prog 106 #[v, .func (.func 107) #[] #[.pointer (some ⟨g, 0, none⟩)]] w fun e w' => e = .returned (.bool R) ∧ Below w.heap.size w w' := by
  have H := Lib.hid (idxId_any v l x g R w S hS hv hl hg tell)
  clear hS hv hg tell
  go_enter Tryz.func106, Tryz.ntmps106
  go_wp2_with fail
  refine H.out.mono ?_
  rintro e w1 ⟨⟨i, hi, rfl⟩, hb⟩
  rcases hi with ⟨rfl, hi⟩ | ⟨rfl, rfl⟩
  · go_wp2_with fail
    go_ret
    exact ⟨rfl, hb⟩
  · go_wp2_with fail
    go_ret
    exact ⟨rfl, hb⟩
/-- The program's hasId. -/
theorem iHasId_any (v : Value) (l : List RM) (x : Int) (R : Bool) (w : World) (S : Nat → Prop) (hS : ∀ b, S b → b < w.heap.size) (hv : MsgsAt w S v l) (hl : l.length ≤ 1048576) (tell : hasId l x l.length = R) :
    Calls Tryz.prog 94 #[v, .int .i64 x] w fun e w' => e = .returned (.bool R) ∧ Below w.heap.size w w' := by
  have hb : Below w.heap.size w (w.alloc (.cells #[.int .i64 x] 3)) := (Below.refl _ _).alloc (Nat.le_refl _) _
  have H := Lib.hid (containsId_any v l x w.heap.size R (w.alloc (.cells #[.int .i64 x] 3)) S (fun b h => Nat.lt_of_lt_of_le (hS b h) hb.size) (hv.keep (.of_below hb hS) fun _ h => h) hl (Box.fresh _ _ _) tell)
  clear hS hv tell
  go_enter Tryz.func94, Tryz.ntmps94
  go_wp2_with fail
  refine H.out.mono ?_
  rintro e w1 ⟨rfl, hb1⟩
  have hb2 := hb.trans (hb1.mono hb.size)
  clear hb hb1
  go_wp2_with fail
  go_ret
  exact ⟨rfl, hb2⟩
set_option maxHeartbeats 2000000 in
theorem idxNum_any (v : Value) (l : List RF) (x : Int) (g : Nat) (R : Bool) (w : World) (S : Nat → Prop) (hS : ∀ b, S b → b < w.heap.size) (hv : FieldsAt w S v l) (hl : l.length ≤ 1048576) (hg : Box w g [.int .i64 x]) (tell : hasNum l x = R) :
    Calls Tryz.prog 123 #[v, .func (.func 109) #[] #[.pointer (some ⟨g, 0, none⟩)]] w fun e w' => (∃ i : Int, ((R = true ∧ 0 ≤ i) ∨ (R = false ∧ i = -1)) ∧ e = .returned (.int .i64 i)) ∧ Below w.heap.size w w' := by
  have HR := Lib.hid tell
  have HG := Lib.hid hg
  have HS := Lib.hid hS
  clear tell hg hS
  obtain ⟨a, cap, rfl⟩ := hv.len
  have H := Lib.hid hv
  clear hv
  go_enter Tryz.func123, Tryz.ntmps123
  go_wp2_with fail
  go_loopw [8] (fun i wr => ∃ k : Nat, k ≤ l.length ∧ i = .int .i64 k ∧ Hid (∀ j (hj : j < l.length), j < k → l[j].1 ≠ x) ∧ Below w.heap.size w wr) (fun i _ => l.length - (intOf i).toNat)
  case atStart => exact ⟨0, by omega, rfl, Lib.hid fun j _ hj => by omega, Below.refl _ _⟩
  case round =>
    obtain ⟨k, hk, rfl, hno, hbr⟩ := hrel
    by_cases hlt : k < l.length
    · have hlti : (k : Int) < (l.length : Int) := by omega
      obtain ⟨b, o, c, hv, hbS, hcs⟩ := H.out.cells (by omega)
      obtain ⟨rfl, rfl⟩ : a = some ⟨b, o, none⟩ ∧ cap = c := by injection hv with e1 e2 e3; exact ⟨e1, e3⟩
      have hbC := HS.out _ hbS
      have hbw : b < wr.heap.size := Nat.lt_of_lt_of_le hbC hbr.size
      have hgr := HG.out.below hbr HG.out.lt
      obtain ⟨Q, hQ⟩ : ∃ Q, (l[k].1 == x) = Q := ⟨_, rfl⟩
      have Hyes : Hid (Q = true → R = true) := Lib.hid fun h => by
        have e : l[k].1 = x := by rw [h] at hQ; exact beq_iff_eq.1 hQ
        rw [← HR.out]; exact hasNum_yes hlt e
      have Hn : Hid (Q = false → ∀ j (hj : j < l.length), j < k + 1 → l[j].1 ≠ x) := Lib.hid fun h j hj hjk => by
        by_cases e : j = k
        · subst e; rw [h] at hQ; exact beq_eq_false_iff_ne.1 hQ
        · exact hno.out j hj (by omega)
      obtain ⟨d0, d1, d2, d3, d4⟩ := hcs k hlt
      rw [← hbr.cell (p := ⟨b, _, none⟩) hbC] at d0 d1 d2 d3 d4
      have Hc := Lib.hid (isNumF_any l[k] x g Q wr hgr hQ)
      clear hcs hv hno hQ hbS hgr
      generalize l[k] = f at d0 d1 d2 d3 d4 Hc
      obtain ⟨A1, A2, A3, A4, A5⟩ := f
      unfold fieldV at Hc
      simp only at d0 d1 d2 d3 d4 Hc
      go_wp2_with fail
      refine Hc.out.mono ?_
      rintro e w2 ⟨rfl, hb2⟩
      have hb3 := hbr.trans (hb2.mono hbr.size)
      clear hb2
      cases Q with
      | true =>
        have hR := Hyes.out rfl
        clear Hyes Hn
        go_wp2_with fail
        go_ret
        exact ⟨⟨k, .inl ⟨hR, by omega⟩, rfl⟩, hb3⟩
      | false =>
        have Hn' := Lib.hid (Hn.out rfl)
        clear Hyes Hn
        go_wp2_with fail
        go_roundw
        case rel => exact ⟨k + 1, by omega, by go_num, Hn', hb3⟩
        case measure => simp [intOf]; omega
    · have hge : (l.length : Int) ≤ (k : Int) := by omega
      have hend : decide (k < l.length) = false := decide_eq_false hlt
      have hR : R = false := by rw [← HR.out]; exact hasNum_no fun j hj => hno.out j hj (by omega)
      go_wp2_with fail
      go_ret
      exact ⟨⟨-1, .inr ⟨hR, rfl⟩, rfl⟩, hbr⟩
theorem containsNum_any (v : Value) (l : List RF) (x : Int) (g : Nat) (R : Bool) (w : World) (S : Nat → Prop) (hS : ∀ b, S b → b < w.heap.size) (hv : FieldsAt w S v l) (hl : l.length ≤ 1048576) (hg : Box w g [.int .i64 x]) (tell : hasNum l x = R) :
    Calls Tryz.prog 108 #[v, .func (.func 109) #[] #[.pointer (some ⟨g, 0, none⟩)]] w fun e w' => e = .returned (.bool R) ∧ Below w.heap.size w w' := by
  have H := Lib.hid (idxNum_any v l x g R w S hS hv hl hg tell)
  clear hS hv hg tell
  go_enter Tryz.func108, Tryz.ntmps108
  go_wp2_with fail
  refine H.out.mono ?_
  rintro e w1 ⟨⟨i, hi, rfl⟩, hb⟩
  rcases hi with ⟨rfl, hi⟩ | ⟨rfl, rfl⟩
  · go_wp2_with fail
    go_ret
    exact ⟨rfl, hb⟩
  · go_wp2_with fail
    go_ret
    exact ⟨rfl, hb⟩
/-- The program's hasNumber. -/
theorem iHasNum_any (v : Value) (l : List RF) (x : Int) (R : Bool) (w : World) (S : Nat → Prop) (hS : ∀ b, S b → b < w.heap.size) (hv : FieldsAt w S v l) (hl : l.length ≤ 1048576) (tell : hasNum l x = R) :
    Calls Tryz.prog 96 #[v, .int .i64 x] w fun e w' => e = .returned (.bool R) ∧ Below w.heap.size w w' := by
  have hb : Below w.heap.size w (w.alloc (.cells #[.int .i64 x] 3)) := (Below.refl _ _).alloc (Nat.le_refl _) _
  have H := Lib.hid (containsNum_any v l x w.heap.size R (w.alloc (.cells #[.int .i64 x] 3)) S (fun b h => Nat.lt_of_lt_of_le (hS b h) hb.size) (hv.keep (.of_below hb hS) fun _ h => h) hl (Box.fresh _ _ _) tell)
  clear hS hv tell
  go_enter Tryz.func96, Tryz.ntmps96
  go_wp2_with fail
  refine H.out.mono ?_
  rintro e w1 ⟨rfl, hb1⟩
  have hb2 := hb.trans (hb1.mono hb.size)
  clear hb hb1
  go_wp2_with fail
  go_ret
  exact ⟨rfl, hb2⟩
end Go.Proofs.YtcbohfncckpolaaGreatDoor.Num

/-
  The walks of the program's MsgCode and FieldCode: they give the codes that the plain definitions of the reference's walks tell; only new memory is written.
-/
namespace Go.Proofs.YtcbohfncckpolaaGreatDoor.Num
open Go.RowKit Go.Proofs
set_option linter.unusedVariables false
set_option linter.unusedSimpArgs false

theorem MsgsAt.take {w : World} {S : Nat → Prop} {a : Option Addr} {cap : Nat} {l : List RM} (h : MsgsAt w S (.slice a l.length cap) l) (k : Nat) (hk : k ≤ l.length) (cap' : Nat) (hc' : k ≤ cap') : MsgsAt w S (.slice a k cap') (l.take k) := by
  have hlen : (l.take k).length = k := by rw [List.length_take]; omega
  by_cases h0 : k = 0
  · subst h0; exact .inl ⟨by simp, a, cap', rfl⟩
  · rcases h with ⟨rfl, _⟩ | ⟨b, o, c, hv, hp, hS, hc⟩
    · simp at hk; omega
    · injection hv with e1 _ e3
      subst e1 e3
      refine .inr ⟨b, o, cap', by rw [hlen], ⟨by omega, by omega⟩, hS, fun i hi => ?_⟩
      obtain ⟨cs, h1, h2, h3⟩ := hc i (by omega)
      exact ⟨cs, h1, by rw [List.getElem_take]; exact h2, h3⟩
theorem hasId_take (r : List RM) (id : Int) (k : Nat) : hasId (r.take k) id (r.take k).length = hasId r id k := by
  unfold hasId; rw [List.take_length]
set_option maxHeartbeats 4000000 in
theorem implMsgCode_any (v : Value) (r : List RM) (msg : Int) (w : World) (h : RawAt w (· < w.heap.size) v r) (hr : Small r) :
    Calls Tryz.prog 78 #[v, .int .i64 msg] w fun e w' => e = .returned (.int .i64 (msgCodeR r msg)) ∧ Below w.heap.size w w' := by
  obtain ⟨u, rfl, hu⟩ := h
  obtain ⟨a, cap, rfl⟩ := hu.len
  have H := Lib.hid hu
  have hr1 := hr.1
  by_cases hin : 0 ≤ msg ∧ msg ≤ (r.length : Int) - 1
  · obtain ⟨k, rfl⟩ := Int.eq_ofNat_of_zero_le hin.1
    have hk : k < r.length := by omega
    have hki : (k : Int) < (r.length : Int) := by omega
    have Hin : Hid (0 ≤ (k : Int) ∧ (k : Int) < (r.length : Int)) := Lib.hid ⟨by omega, hki⟩
    have He := Lib.hid (msgCode_in hk)
    rw [He.out]
    have hcap := H.out.cap
    have hkc : (k : Int) ≤ (cap : Int) := by omega
    have Hpre := Lib.hid (H.out.take k (by omega) cap (by omega))
    have Hpl : Hid ((r.take k).length ≤ 1048576) := Lib.hid (by rw [List.length_take]; omega)
    obtain ⟨b, o, c, hv, hbC, hcs⟩ := hu.cells (by omega)
    obtain ⟨rfl, rfl⟩ : a = some ⟨b, o, none⟩ ∧ cap = c := by injection hv with e1 e2 e3; exact ⟨e1, e3⟩
    obtain ⟨x, d0, d1, hx⟩ := hcs k hk
    obtain ⟨xa, xc, rfl⟩ := hx.len
    have hfl := hr.2 _ (List.getElem_mem hk)
    clear hu hcs hv hx hin
    generalize r[k] = m at d0 d1 hfl
    obtain ⟨id, fs⟩ := m
    simp only at d0 d1 hfl
    obtain ⟨R, hR⟩ : ∃ R, hasId r id k = R := ⟨_, rfl⟩
    have HR := Lib.hid hR
    have HT : Hid (hasId (r.take k) id (r.take k).length = R) := Lib.hid ((hasId_take r id k).trans hR)
    clear hR
    have H1 : Below w.heap.size w (w.alloc (.cells #[.slice (some ⟨b, o, none⟩) r.length cap] 26)) := (Below.refl _ _).alloc (Nat.le_refl _) _
    go_enter Tryz.func78, Tryz.ntmps78
    go_wp2_with fail
    refine (isIndex_yes _ _ _ Hin.out).mono ?_
    rintro e w1 ⟨rfl, rfl⟩
    by_cases h1 : 1 ≤ id
    · have n1 : decide (id < 1) = false := decide_eq_false (by omega)
      by_cases h99 : id ≤ 99
      · have n99 : decide (99 < id) = false := decide_eq_false (by omega)
        have Hid' : Hid (1 ≤ id ∧ id ≤ 99) := Lib.hid ⟨h1, h99⟩
        clear h1 h99
        go_upto_region 6 with fail
        have hl2 : Below w.heap.size w ((w.alloc (.cells #[.slice (some ⟨b, o, none⟩) r.length cap] 26)).alloc (.cells #[.int .i64 id, .slice xa fs.length xc] 42)) := H1.alloc (by simp) _
        have hx2 : Box ((w.alloc (.cells #[.slice (some ⟨b, o, none⟩) r.length cap] 26)).alloc (.cells #[.int .i64 id, .slice xa fs.length xc] 42)) (w.heap.size + 1) [.int .i64 id, .slice xa fs.length xc] := by
          have h := Box.fresh (w.alloc (.cells #[.slice (some ⟨b, o, none⟩) r.length cap] 26)) #[.int .i64 id, .slice xa fs.length xc] 42
          rwa [show (w.alloc (.cells #[.slice (some ⟨b, o, none⟩) r.length cap] 26)).heap.size = w.heap.size + 1 by simp] at h
        have hy2 : Box ((w.alloc (.cells #[.slice (some ⟨b, o, none⟩) r.length cap] 26)).alloc (.cells #[.int .i64 id, .slice xa fs.length xc] 42)) w.heap.size [.slice (some ⟨b, o, none⟩) r.length cap] := (Box.fresh _ _ _).alloc _
        generalize (w.alloc (.cells #[.slice (some ⟨b, o, none⟩) r.length cap] 26)).alloc (.cells #[.int .i64 id, .slice xa fs.length xc] 42) = w2 at hl2 hx2 hy2 ⊢
        have hz2 := hx2.lt
        have hx3 := Lib.hid hx2
        have hl3 := Lib.hid hl2
        obtain ⟨c0, c1, _⟩ := hx2.two
        obtain ⟨p0, _⟩ := hy2.one
        clear hx2 hy2 d0 d1
        go_cut [26] from 27 to 33 (fun s wx => s = .bool R ∧ Hid (Box wx (w.heap.size + 1) [.int .i64 id, .slice xa fs.length xc]) ∧ Below w.heap.size w wx)
        case first =>
          have Hh := Lib.hid (iHasId_any _ (r.take k) id R w2.drew (· < w.heap.size) (fun b hb => Nat.lt_of_lt_of_le hb hl3.out.drew.size) (Hpre.out.keep (below_sees hl3.out.drew) fun b hb => hb) Hpl.out HT.out)
          go_region_with (go_at_call 94; refine Hh.out.mono ?_; rintro e w3 ⟨rfl, hb3⟩; have hx4 := hx3.out.drew.below hb3 hz2; have hl4 := hl3.out.drew.trans (hb3.mono hl3.out.drew.size))
          all_goals
            have hx5 := Lib.hid hx4
            clear hx4 hb3
            go_wp2_with fail
            go_meet
            exact ⟨rfl, hx5, hl4⟩
        case rest =>
        obtain ⟨rfl, hx4, hl4⟩ := hcut
        clear c0 c1 hx3 hl3 hl2 hz2 p0
        obtain ⟨c0, c1, _⟩ := hx4.out.two
        cases R with
        | true =>
          have Hc : Hid (msgCodeN r k (id, fs) = 3) := Lib.hid (by unfold msgCodeN; rw [if_neg (by simpa using Hid'.out), if_pos HR.out])
          go_wp2_with fail
          go_ret
          exact ⟨by rw [Hc.out]; rfl, hl4⟩
        | false =>
          by_cases h8 : 8 < fs.length
          · have h8i : (8 : Int) < (fs.length : Int) := by omega
            have Hc : Hid (msgCodeN r k (id, fs) = 4) := Lib.hid (by unfold msgCodeN; rw [if_neg (by simpa using Hid'.out), if_neg (by rw [HR.out]; simp), if_pos h8])
            go_wp2_with fail
            go_ret
            exact ⟨by rw [Hc.out]; rfl, hl4⟩
          · have h8i : decide ((8 : Int) < (fs.length : Int)) = false := decide_eq_false (by omega)
            have h8n : decide (8 < fs.length) = false := decide_eq_false h8
            have Hc : Hid (msgCodeN r k (id, fs) = 0) := Lib.hid (by unfold msgCodeN; rw [if_neg (by simpa using Hid'.out), if_neg (by rw [HR.out]; simp), if_neg h8])
            go_wp2_with fail
            go_ret
            exact ⟨by rw [Hc.out]; rfl, hl4⟩
      · have Hc : Hid (msgCodeN r k (id, fs) = 2) := Lib.hid (if_pos (by simp only; omega))
        have n99 : (99 : Int) < id := by omega
        clear h99 h1
        go_wp2_with fail
        go_ret
        exact ⟨by rw [Hc.out]; rfl, H1.alloc (by simp) _⟩
    · have Hc : Hid (msgCodeN r k (id, fs) = 2) := Lib.hid (if_pos (by simp only; omega))
      have n1 : id < 1 := by omega
      clear h1
      go_wp2_with fail
      go_ret
      exact ⟨by rw [Hc.out]; rfl, H1.alloc (by simp) _⟩
  · have Hin : Hid (¬ (0 ≤ msg ∧ msg < (r.length : Int))) := Lib.hid (by omega)
    have He := Lib.hid (msgCode_out hin)
    clear hin hu
    rw [He.out]
    go_enter Tryz.func78, Tryz.ntmps78
    go_wp2_with fail
    refine (isIndex_no _ _ _ Hin.out).mono ?_
    rintro e w1 ⟨rfl, rfl⟩
    go_wp2_with fail
    go_ret
    exact ⟨rfl, (Below.refl _ _).alloc (Nat.le_refl _) _⟩
end Go.Proofs.YtcbohfncckpolaaGreatDoor.Num

/-
  The walk of the program's FieldCode: it gives the code that the plain definition of the reference's walk tells; only new memory is written.
-/
namespace Go.Proofs.YtcbohfncckpolaaGreatDoor.Num
open Go.RowKit Go.Proofs
set_option linter.unusedVariables false
set_option linter.unusedSimpArgs false

/-- What the program's refOk tells. -/
def refB (r : List RM) (k x : Int) : Bool := if k = 8 then hasId r x r.length else x == 0
theorem refOk_any (v : Value) (r : List RM) (A1 A2 A5 : Int) (A3 A4 : Bool) (R : Bool) (w : World) (S : Nat → Prop) (hS : ∀ b, S b → b < w.heap.size) (hv : MsgsAt w S v r) (hr : r.length ≤ 1048576) (tell : refB r A2 A5 = R) :
    Calls Tryz.prog 98 #[.agg #[v], .agg #[.int .i64 A1, .int .i64 A2, .bool A3, .bool A4, .int .i64 A5]] w fun e w' => e = .returned (.bool R) ∧ Below w.heap.size w w' := by
  obtain ⟨a, cap, rfl⟩ := hv.len
  have hb : Below w.heap.size w ((w.alloc (.cells #[.slice a r.length cap] 26)).alloc (.cells #[.int .i64 A1, .int .i64 A2, .bool A3, .bool A4, .int .i64 A5] 58)) := ((Below.refl _ _).alloc (Nat.le_refl _) _).alloc (by simp) _
  unfold refB at tell
  by_cases h8 : A2 = 8
  · subst h8
    rw [if_pos rfl] at tell
    have H := Lib.hid (iHasId_any _ r A5 R _ S (fun b h => Nat.lt_of_lt_of_le (hS b h) hb.size) (hv.keep (.of_below hb hS) fun _ h => h) hr tell)
    clear hS hv tell
    go_enter Tryz.func98, Tryz.ntmps98
    go_wp2_with fail
    refine H.out.mono ?_
    rintro e w1 ⟨rfl, hb1⟩
    have hb2 := hb.trans (hb1.mono hb.size)
    clear hb hb1
    go_wp2_with fail
    go_ret
    exact ⟨rfl, hb2⟩
  · rw [if_neg h8] at tell
    have b8 := neB2 h8
    clear h8 hS hv
    go_enter Tryz.func98, Tryz.ntmps98
    go_wp2_with fail
    go_ret
    exact ⟨rfl, hb⟩
set_option maxHeartbeats 8000000 in
theorem implFieldCode_any (v : Value) (r : List RM) (msg field : Int) (w : World) (h : RawAt w (· < w.heap.size) v r) (hr : Small r) :
    Calls Tryz.prog 79 #[v, .int .i64 msg, .int .i64 field] w fun e w' => e = .returned (.int .i64 (fieldCodeR r msg field)) ∧ Below w.heap.size w w' := by
  obtain ⟨u, rfl, hu⟩ := h
  obtain ⟨a, cap, rfl⟩ := hu.len
  have H := Lib.hid hu
  have hr1 := hr.1
  have H1 : Below w.heap.size w (w.alloc (.cells #[.slice a r.length cap] 26)) := (Below.refl _ _).alloc (Nat.le_refl _) _
  by_cases hin : 0 ≤ msg ∧ msg ≤ (r.length : Int) - 1
  · obtain ⟨k, rfl⟩ := Int.eq_ofNat_of_zero_le hin.1
    have hk : k < r.length := by omega
    have hki : (k : Int) < (r.length : Int) := by omega
    have Hin : Hid (0 ≤ (k : Int) ∧ (k : Int) < (r.length : Int)) := Lib.hid ⟨by omega, hki⟩
    obtain ⟨b, o, c, hv, hbC, hcs⟩ := hu.cells (by omega)
    obtain ⟨rfl, rfl⟩ : a = some ⟨b, o, none⟩ ∧ cap = c := by injection hv with e1 e2 e3; exact ⟨e1, e3⟩
    obtain ⟨x, d0, d1, hx⟩ := hcs k hk
    obtain ⟨xa, xc, rfl⟩ := hx.len
    have hfl := hr.2 _ (List.getElem_mem hk)
    have HE : Hid (∀ q (h2 : q < r[k].2.length), fieldCodeR r (k : Int) (q : Int) = fieldCodeN r r[k].2 q r[k].2[q]) := Lib.hid fun q h2 => fieldCode_in hk h2
    have HO : Hid (¬ (0 ≤ field ∧ field ≤ (r[k].2.length : Int) - 1) → fieldCodeR r (k : Int) field = 0) := Lib.hid (fieldCode_out2 hk)
    have Hx := Lib.hid hx
    clear hu hcs hv hx hin d0
    generalize r[k] = m at d1 hfl HE HO Hx
    obtain ⟨id, l⟩ := m
    simp only at d1 hfl HE HO Hx
    by_cases hin2 : 0 ≤ field ∧ field ≤ (l.length : Int) - 1
    · obtain ⟨q, rfl⟩ := Int.eq_ofNat_of_zero_le hin2.1
      have hq : q < l.length := by omega
      have hqi : (q : Int) < (l.length : Int) := by omega
      have hqi2 : (q : Int) ≤ (l.length : Int) := by omega
      have Hin2 : Hid (0 ≤ (q : Int) ∧ (q : Int) < (l.length : Int)) := Lib.hid ⟨by omega, hqi⟩
      have He := Lib.hid (HE.out q hq)
      rw [He.out]
      have hcapx : l.length ≤ xc := Hx.out.cap
      have hqc : (q : Int) ≤ (xc : Int) := by omega
      have Hpre := Lib.hid (Hx.out.take q (by omega) xc (by omega))
      have Hpl : Hid ((l.take q).length ≤ 1048576) := Lib.hid (by rw [List.length_take]; omega)
      obtain ⟨fb, fo, fc, fv, fbC, fcs⟩ := Hx.out.cells (by omega)
      obtain ⟨rfl, rfl⟩ : xa = some ⟨fb, fo, none⟩ ∧ xc = fc := by injection fv with e1 e2 e3; exact ⟨e1, e3⟩
      obtain ⟨x0, x1, x2, x3, x4⟩ := fcs q hq
      clear fcs fv HE HO He Hx hin2
      generalize hL : l.take q = L at Hpre Hpl
      have HL := Lib.hid hL
      clear hL
      generalize l[q] = f at x0 x1 x2 x3 x4
      obtain ⟨A1, A2, A3, A4, A5⟩ := f
      simp only at x0 x1 x2 x3 x4
      go_enter Tryz.func79, Tryz.ntmps79
      go_wp2_with fail
      refine (isIndex_yes _ _ _ Hin.out).mono ?_
      rintro e w1 ⟨rfl, rfl⟩
      go_wp2_with fail
      refine (isIndex_yes _ _ _ Hin2.out).mono ?_
      rintro e w1 ⟨rfl, rfl⟩
      have hfbw : fb < (w.alloc (.cells #[.slice (some ⟨b, o, none⟩) r.length cap] 26)).heap.size := by simp; omega
      go_wp2_with fail
      have hl2 : Below w.heap.size w ((w.alloc (.cells #[.slice (some ⟨b, o, none⟩) r.length cap] 26)).alloc (.cells #[.int .i64 A1, .int .i64 A2, .bool A3, .bool A4, .int .i64 A5] 58)) := H1.alloc (by simp) _
      have hx2 : Box ((w.alloc (.cells #[.slice (some ⟨b, o, none⟩) r.length cap] 26)).alloc (.cells #[.int .i64 A1, .int .i64 A2, .bool A3, .bool A4, .int .i64 A5] 58)) (w.heap.size + 1) [.int .i64 A1, .int .i64 A2, .bool A3, .bool A4, .int .i64 A5] := by
        have h := Box.fresh (w.alloc (.cells #[.slice (some ⟨b, o, none⟩) r.length cap] 26)) #[.int .i64 A1, .int .i64 A2, .bool A3, .bool A4, .int .i64 A5] 58
        rwa [show (w.alloc (.cells #[.slice (some ⟨b, o, none⟩) r.length cap] 26)).heap.size = w.heap.size + 1 by simp] at h
      have hy2 : Box ((w.alloc (.cells #[.slice (some ⟨b, o, none⟩) r.length cap] 26)).alloc (.cells #[.int .i64 A1, .int .i64 A2, .bool A3, .bool A4, .int .i64 A5] 58)) w.heap.size [.slice (some ⟨b, o, none⟩) r.length cap] := (Box.fresh _ _ _).alloc _
      generalize (w.alloc (.cells #[.slice (some ⟨b, o, none⟩) r.length cap] 26)).alloc (.cells #[.int .i64 A1, .int .i64 A2, .bool A3, .bool A4, .int .i64 A5] 58) = w2 at hl2 hx2 hy2 ⊢
      have hz2 := hx2.lt
      have hzy := hy2.lt
      obtain ⟨c0, c1, c2, c3, c4, _⟩ := hx2.fiveT
      clear x0 x1 x2 x3 x4 d1 hfbw
      obtain ⟨R, hR⟩ : ∃ R, numOkB A1 = R := ⟨_, rfl⟩
      have Hnum := Lib.hid (implNumberOk_any A1)
      have HR := Lib.hid hR
      rw [hR] at Hnum
      clear hR
      refine (Hnum.out _).mono ?_
      rintro e w1 ⟨rfl, rfl⟩
      cases R with
      | false =>
        have Hc : Hid (fieldCodeN r l q (A1, A2, A3, A4, A5) = 5) := Lib.hid (if_pos HR.out)
        go_wp2_with fail
        go_ret
        exact ⟨by rw [Hc.out]; rfl, hl2⟩
      | true =>
        go_upto_region 7 with fail
        obtain ⟨R2, hR2⟩ : ∃ R2, hasNum L A1 = R2 := ⟨_, rfl⟩
        have HR2 := Lib.hid hR2
        have hx3 := Lib.hid hx2
        have hy3 := Lib.hid hy2
        have hl3 := Lib.hid hl2
        clear hR2 hx2 hy2
        go_cut [42] from 43 to 48 (fun s wx => s = .bool R2 ∧ Hid (Box wx (w.heap.size + 1) [.int .i64 A1, .int .i64 A2, .bool A3, .bool A4, .int .i64 A5]) ∧ Hid (Box wx w.heap.size [.slice (some ⟨b, o, none⟩) r.length cap]) ∧ Below w.heap.size w wx)
        case first =>
          have Hh := Lib.hid (iHasNum_any _ L A1 R2 w2.drew (· < w.heap.size) (fun b hb => Nat.lt_of_lt_of_le hb hl3.out.drew.size) (Hpre.out.keep (below_sees hl3.out.drew) fun b hb => hb) Hpl.out HR2.out)
          go_region_with (go_at_call 96; refine Hh.out.mono ?_; rintro e w3 ⟨rfl, hb3⟩; have hx4 := hx3.out.drew.below hb3 hz2; have hy4 := hy3.out.drew.below hb3 hzy; have hl4 := hl3.out.drew.trans (hb3.mono hl3.out.drew.size))
          all_goals
            have hx5 := Lib.hid hx4
            have hy5 := Lib.hid hy4
            clear hx4 hy4 hb3
            go_wp2_with fail
            go_meet
            exact ⟨rfl, hx5, hy5, hl4⟩
        case rest =>
        obtain ⟨rfl, hx4, hy4, hl4⟩ := hcut
        clear c0 c1 c2 c3 c4 hx3 hy3 hl3 hl2 hz2 hzy Hpre Hpl
        obtain ⟨c0, c1, c2, c3, c4, _⟩ := hx4.out.fiveT
        obtain ⟨p0, _⟩ := hy4.out.one
        have hn5 : numOkB A1 = true := HR.out
        cases R2 with
        | true =>
          have Hc : Hid (fieldCodeN r l q (A1, A2, A3, A4, A5) = 6) := Lib.hid (by unfold fieldCodeN; rw [if_neg (by rw [hn5]; simp), if_pos (by rw [HL.out]; exact HR2.out)])
          go_wp2_with fail
          go_ret
          exact ⟨by rw [Hc.out]; rfl, hl4⟩
        | false =>
          by_cases hkind : 1 ≤ A2 ∧ A2 ≤ 8
          · have Hkind := Lib.hid hkind
            have Hc1 : Hid (fieldCodeN r l q (A1, A2, A3, A4, A5) = if A4 = true ∧ (A3 = false ∨ numericB A2 = false) then 8 else if refB r A2 A5 = false then 9 else 0) := Lib.hid (by
              unfold fieldCodeN refB; rw [if_neg (by rw [hn5]; simp), if_neg (by rw [HL.out, HR2.out]; simp), if_neg (by simpa using hkind)]
              by_cases h8 : A2 = 8
              · simp [h8]
              · simp [h8])
            clear hkind hn5
            obtain ⟨Nm, hNm⟩ : ∃ Nm, numericB A2 = Nm := ⟨_, rfl⟩
            have Hnm := Lib.hid (iNumeric_any A2)
            rw [hNm] at Hnm
            have HNm := Lib.hid hNm
            clear hNm
            obtain ⟨Rf, hRf⟩ : ∃ Rf, refB r A2 A5 = Rf := ⟨_, rfl⟩
            have Href := Lib.hid (fun (wx : World) (hb : Below w.heap.size w wx) => refOk_any _ r A1 A2 A5 A3 A4 Rf wx (· < w.heap.size) (fun b h => Nat.lt_of_lt_of_le h hb.size) (H.out.keep (below_sees hb) fun _ h => h) hr1 hRf)
            have HRf := Lib.hid hRf
            clear hRf
            have Hend : Hid (∀ P : Bool, (¬ (A4 = true ∧ (A3 = false ∨ numericB A2 = false))) → fieldCodeN r l q (A1, A2, A3, A4, A5) = if Rf = false then 9 else 0) := Lib.hid (fun P h => by rw [Hc1.out, if_neg h, HRf.out])
            go_wp2_with fail
            refine (kindOk_yes A2 _ Hkind.out).mono ?_
            rintro e w1 ⟨rfl, rfl⟩
            cases A4 with
            | true =>
              cases A3 with
              | false =>
                have Hc : Hid (fieldCodeN r l q (A1, A2, false, true, A5) = 8) := Lib.hid (by rw [Hc1.out, if_pos ⟨by trivial, .inl (by trivial)⟩])
                go_wp2_with fail
                go_ret
                exact ⟨by rw [Hc.out]; rfl, hl4⟩
              | true =>
                go_wp2_with fail
                refine (Hnm.out _).mono ?_
                rintro e w1 ⟨rfl, rfl⟩
                cases Nm with
                | false =>
                  have Hc : Hid (fieldCodeN r l q (A1, A2, true, true, A5) = 8) := Lib.hid (by rw [Hc1.out, if_pos ⟨by trivial, .inr HNm.out⟩])
                  go_wp2_with fail
                  go_ret
                  exact ⟨by rw [Hc.out]; rfl, hl4⟩
                | true =>
                  have Hc := Lib.hid (Hend.out true (by rw [HNm.out]; simp))
                  go_wp2_with fail
                  refine (Href.out _ hl4).mono ?_
                  rintro e w6 ⟨rfl, hb6⟩
                  have hl6 := hl4.trans (hb6.mono hl4.size)
                  cases Rf with
                  | true =>
                    go_wp2_with fail
                    go_ret
                    exact ⟨by rw [Hc.out]; rfl, hl6⟩
                  | false =>
                    go_wp2_with fail
                    go_ret
                    exact ⟨by rw [Hc.out]; rfl, hl6⟩
            | false =>
              have Hc := Lib.hid (Hend.out true (by simp))
              go_wp2_with fail
              refine (Href.out _ hl4).mono ?_
              rintro e w6 ⟨rfl, hb6⟩
              have hl6 := hl4.trans (hb6.mono hl4.size)
              cases Rf with
              | true =>
                go_wp2_with fail
                go_ret
                exact ⟨by rw [Hc.out]; rfl, hl6⟩
              | false =>
                go_wp2_with fail
                go_ret
                exact ⟨by rw [Hc.out]; rfl, hl6⟩
          · have Hkind := Lib.hid hkind
            have Hc : Hid (fieldCodeN r l q (A1, A2, A3, A4, A5) = 7) := Lib.hid (by unfold fieldCodeN; rw [if_neg (by rw [hn5]; simp), if_neg (by rw [HL.out, HR2.out]; simp), if_pos hkind])
            clear hkind
            go_wp2_with fail
            refine (kindOk_no A2 _ Hkind.out).mono ?_
            rintro e w1 ⟨rfl, rfl⟩
            go_wp2_with fail
            go_ret
            exact ⟨by rw [Hc.out]; rfl, hl4⟩
    · have Hin2 : Hid (¬ (0 ≤ field ∧ field < (l.length : Int))) := Lib.hid (by omega)
      have He := Lib.hid (HO.out hin2)
      clear hin2 HE HO Hx
      rw [He.out]
      go_enter Tryz.func79, Tryz.ntmps79
      go_wp2_with fail
      refine (isIndex_yes _ _ _ Hin.out).mono ?_
      rintro e w1 ⟨rfl, rfl⟩
      go_wp2_with fail
      refine (isIndex_no _ _ _ Hin2.out).mono ?_
      rintro e w1 ⟨rfl, rfl⟩
      go_wp2_with fail
      go_ret
      exact ⟨rfl, H1⟩
  · have Hin : Hid (¬ (0 ≤ msg ∧ msg < (r.length : Int))) := Lib.hid (by omega)
    have He := Lib.hid (fieldCode_out1 (field := field) hin)
    clear hin hu
    rw [He.out]
    go_enter Tryz.func79, Tryz.ntmps79
    go_wp2_with fail
    refine (isIndex_no _ _ _ Hin.out).mono ?_
    rintro e w1 ⟨rfl, rfl⟩
    go_wp2_with fail
    go_ret
    exact ⟨rfl, H1⟩
end Go.Proofs.YtcbohfncckpolaaGreatDoor.Num

/-
  The walks of the program's checkMsg, checkRaw and RawOk: they tell the first code that is not 0, as an error, or nil; only new memory is written.
-/
namespace Go.Proofs.YtcbohfncckpolaaGreatDoor.Num
open Go.RowKit Go.Proofs
set_option linter.unusedVariables false
set_option linter.unusedSimpArgs false

/-- A violation as an error. -/
def errV (f : Int × Int × Int) : Value := .iface 122 (.agg #[.int .i64 f.1, .int .i64 f.2.1, .int .i64 f.2.2])
theorem violOf_zero (m f : Int) (w : World) : Calls Tryz.prog 61 #[.int .i64 0, .int .i64 m, .int .i64 f] w fun e w' => e = .returned .nilIface ∧ w = w' := by
  go_enter Tryz.func61, Tryz.ntmps61
  go_wp2_with fail
  go_ret
  exact ⟨rfl, rfl⟩
theorem violOf_some (c m f : Int) (w : World) (h : c ≠ 0) : Calls Tryz.prog 61 #[.int .i64 c, .int .i64 m, .int .i64 f] w fun e w' => e = .returned (errV (c, m, f)) ∧ w = w' := by
  have bC := neB2 h
  clear h
  go_enter Tryz.func61, Tryz.ntmps61
  go_wp2_with fail
  go_ret
  exact ⟨rfl, rfl⟩
/-- What checkMsg gives at the k-th message. -/
def MsgErr (r : List RM) (k : Nat) (n : Nat) (E : Value) : Prop :=
  (E = .nilIface ∧ msgCodeR r (k : Int) = 0 ∧ ∀ p : Nat, p < n → fieldCodeR r (k : Int) (p : Int) = 0) ∨
  (msgCodeR r (k : Int) ≠ 0 ∧ E = errV (msgCodeR r (k : Int), (k : Int), -1)) ∨
  (∃ q : Nat, msgCodeR r (k : Int) = 0 ∧ (∀ p : Nat, p < q → fieldCodeR r (k : Int) (p : Int) = 0) ∧ q < n ∧ fieldCodeR r (k : Int) (q : Int) ≠ 0 ∧ E = errV (fieldCodeR r (k : Int) (q : Int), (k : Int), (q : Int)))
set_option maxHeartbeats 4000000 in
theorem checkMsg_any (v : Value) (r : List RM) (k : Nat) (w : World) (hk : k < r.length) (h : RawAt w (· < w.heap.size) v r) (hr : Small r) :
    Calls Tryz.prog 62 #[v, .int .i64 k] w fun e w' => ∃ E, MsgErr r k r[k].2.length E ∧ e = .returned E ∧ Below w.heap.size w w' := by
  obtain ⟨u, rfl, hu⟩ := h
  obtain ⟨a, cap, rfl⟩ := hu.len
  have H := Lib.hid hu
  have Hr := Lib.hid hr
  have hfl := hr.2 _ (List.getElem_mem hk)
  have hki : (k : Int) < (r.length : Int) := by omega
  obtain ⟨b, o, c, hv, hbC, hcs⟩ := hu.cells (by omega)
  obtain ⟨rfl, rfl⟩ : a = some ⟨b, o, none⟩ ∧ cap = c := by injection hv with e1 e2 e3; exact ⟨e1, e3⟩
  obtain ⟨x, d0, d1, hx⟩ := hcs k hk
  obtain ⟨xa, xc, rfl⟩ := hx.len
  clear hu hr hcs hv hx d0
  generalize r[k].2.length = n at d1 hfl ⊢
  have hl1 : Below w.heap.size w (w.alloc (.cells #[.slice (some ⟨b, o, none⟩) r.length cap] 26)) := (Below.refl _ _).alloc (Nat.le_refl _) _
  have hx1 := Box.fresh w #[.slice (some ⟨b, o, none⟩) r.length cap] 26
  have hraw : ∀ wx : World, Below w.heap.size w wx → RawAt wx (· < wx.heap.size) (.agg #[.slice (some ⟨b, o, none⟩) r.length cap]) r :=
    fun wx hb => ⟨_, rfl, H.out.keep (below_sees hb) fun b hb' => Nat.lt_of_lt_of_le hb' hb.size⟩
  have Hraw := Lib.hid hraw
  clear hraw
  go_enter Tryz.func62, Tryz.ntmps62
  go_wp2_with fail
  generalize (w.alloc (.cells #[.slice (some ⟨b, o, none⟩) r.length cap] 26)) = w1 at hl1 hx1 ⊢
  obtain ⟨C, hC⟩ : ∃ C, msgCodeR r (k : Int) = C := ⟨_, rfl⟩
  have HC := Lib.hid hC
  clear hC
  refine (implMsgCode_any _ r (k : Int) _ (Hraw.out _ hl1) Hr.out).mono ?_
  rw [HC.out]
  rintro e w2 ⟨rfl, hb2⟩
  have HX := Lib.hid (hx1.below hb2 hx1.lt)
  have hl2 := hl1.trans (hb2.mono hl1.size)
  have hd1 : w2.cell? ⟨b, o + k * 2 + 1, none⟩ = some (.slice xa n xc) := by rw [hl2.cell (p := ⟨b, _, none⟩) hbC]; exact d1
  have hbw : b < w2.heap.size := Nat.lt_of_lt_of_le hbC hl2.size
  obtain ⟨c0, _⟩ := HX.out.one
  clear hx1 hl1 hb2 d1
  by_cases hC0 : C = 0
  · subst hC0
    go_wp2_with fail
    refine (violOf_zero _ _ _).mono ?_
    rintro e w3 ⟨rfl, rfl⟩
    go_wp2_with fail
    go_loopw [23] (fun i wr => ∃ p : Nat, p ≤ n ∧ i = .int .i64 p ∧ Hid (∀ s : Nat, s < p → fieldCodeR r (k : Int) (s : Int) = 0) ∧ Hid (Box wr w.heap.size [.slice (some ⟨b, o, none⟩) r.length cap]) ∧ Below w.heap.size w wr) (fun i _ => n - (intOf i).toNat)
    case atStart => exact ⟨0, by omega, rfl, Lib.hid fun j hj => by omega, HX, hl2⟩
    case round =>
      clear c0 HX hl2 hd1 hbw
      obtain ⟨p, hp, rfl, hzero, HX, hl2⟩ := hrel
      obtain ⟨c0, _⟩ := HX.out.one
      by_cases hpn : p < n
      · have hpi : (p : Int) < (n : Int) := by omega
        obtain ⟨F, hF⟩ : ∃ F, fieldCodeR r (k : Int) (p : Int) = F := ⟨_, rfl⟩
        have HF := Lib.hid hF
        clear hF
        go_wp2_with fail
        refine (implFieldCode_any _ r (k : Int) (p : Int) _ (Hraw.out _ hl2) Hr.out).mono ?_
        rw [HF.out]
        rintro e w4 ⟨rfl, hb4⟩
        have HX4 := Lib.hid (HX.out.below hb4 HX.out.lt)
        have hl4 := hl2.trans (hb4.mono hl2.size)
        clear hb4 HX hl2 c0
        by_cases hF0 : F = 0
        · subst hF0
          have Hz : Hid (∀ s : Nat, s < p + 1 → fieldCodeR r (k : Int) (s : Int) = 0) := Lib.hid fun s hs => by
            by_cases e : s = p
            · subst e; exact HF.out
            · exact hzero.out s (by omega)
          go_wp2_with fail
          refine (violOf_zero _ _ _).mono ?_
          rintro e w3 ⟨rfl, rfl⟩
          go_wp2_with fail
          go_roundw
          case rel => exact ⟨p + 1, by omega, by go_num, Hz, HX4, hl4⟩
          case measure => simp [intOf]; omega
        · have HF0 := Lib.hid hF0
          clear hF0
          go_wp2_with fail
          refine (violOf_some _ _ _ _ HF0.out).mono ?_
          rintro e w3 ⟨rfl, rfl⟩
          unfold errV
          go_wp2_with fail
          go_ret
          exact ⟨_, .inr (.inr ⟨p, HC.out, hzero.out, hpn, by rw [HF.out]; exact HF0.out, by rw [HF.out]; rfl⟩), rfl, hl4⟩
      · have hge : (n : Int) ≤ (p : Int) := by omega
        have hend : decide (p < n) = false := decide_eq_false hpn
        go_wp2_with fail
        go_ret
        exact ⟨_, .inl ⟨rfl, HC.out, fun s hs => hzero.out s (by omega)⟩, rfl, hl2⟩
  · have HC0 := Lib.hid hC0
    clear hC0
    go_wp2_with fail
    refine (violOf_some _ _ _ _ HC0.out).mono ?_
    rintro e w3 ⟨rfl, rfl⟩
    unfold errV
    go_wp2_with fail
    go_ret
    exact ⟨_, .inr (.inl ⟨by rw [HC.out]; exact HC0.out, by rw [HC.out]; rfl⟩), rfl, hl2⟩
set_option maxHeartbeats 4000000 in
/-- checkRaw: the first violation as an error, or nil. -/
theorem checkRaw_any (v : Value) (r : List RM) (w : World) (h : RawAt w (· < w.heap.size) v r) (hr : Small r) :
    Calls Tryz.prog 38 #[v] w fun e w' => ∃ f, First r f ∧ ((f.1 = 0 ∧ e = .returned .nilIface) ∨ (f.1 ≠ 0 ∧ e = .returned (errV f))) ∧ Below w.heap.size w w' := by
  obtain ⟨u, rfl, hu⟩ := h
  obtain ⟨a, cap, rfl⟩ := hu.len
  have H := Lib.hid hu
  have Hr := Lib.hid hr
  have hr1 := hr.1
  clear hu hr
  have hl1 : Below w.heap.size w (w.alloc (.cells #[.slice a r.length cap] 26)) := (Below.refl _ _).alloc (Nat.le_refl _) _
  have hx1 := Box.fresh w #[.slice a r.length cap] 26
  have Hraw : Hid (∀ wx : World, Below w.heap.size w wx → RawAt wx (· < wx.heap.size) (.agg #[.slice a r.length cap]) r) :=
    Lib.hid fun wx hb => ⟨_, rfl, H.out.keep (below_sees hb) fun b hb' => Nat.lt_of_lt_of_le hb' hb.size⟩
  by_cases h6 : 6 < r.length
  · have h6i : (6 : Int) < (r.length : Int) := by omega
    go_enter Tryz.func38, Tryz.ntmps38
    go_wp2_with fail
    refine (violOf_some 1 6 (-1) _ (by omega)).mono ?_
    rintro e w3 ⟨rfl, rfl⟩
    unfold errV
    go_wp2_with fail
    go_ret
    exact ⟨(1, 6, -1), .inl ⟨h6, rfl⟩, .inr ⟨by simp, rfl⟩, hl1⟩
  · have h6i : decide ((6 : Int) < (r.length : Int)) = false := decide_eq_false (by omega)
    have h6n : decide (6 < r.length) = false := decide_eq_false h6
    have h66 : Hid (r.length ≤ 6) := Lib.hid (by omega)
    clear h6
    go_enter Tryz.func38, Tryz.ntmps38
    go_wp2_with fail
    go_loopw [13] (fun i wr => ∃ k : Nat, k ≤ r.length ∧ i = .int .i64 k ∧ Hid (AllB r k) ∧ Hid (Box wr w.heap.size [.slice a r.length cap]) ∧ Below w.heap.size w wr) (fun i _ => r.length - (intOf i).toNat)
    case atStart => exact ⟨0, by omega, rfl, Lib.hid fun j _ hj => by omega, Lib.hid hx1, hl1⟩
    case round =>
      clear hx1 hl1
      obtain ⟨k, hk, rfl, hall, HX, hl⟩ := hrel
      obtain ⟨c0, _⟩ := HX.out.one
      by_cases hlt : k < r.length
      · have hlti : (k : Int) < (r.length : Int) := by omega
        have hT : Hid (∀ E, MsgErr r k r[k].2.length E → (E = .nilIface ∧ AllB r (k + 1)) ∨ (∃ f : Int × Int × Int, First r f ∧ f.1 ≠ 0 ∧ E = errV f)) := Lib.hid fun E hE => by
          rcases hE with ⟨rfl, hm, hf⟩ | ⟨hm, rfl⟩ | ⟨q, hm, hf, hq, hF, rfl⟩
          · exact .inl ⟨rfl, hall.out.next hlt hm hf⟩
          · exact .inr ⟨_, .inr ⟨h66.out, .inr (.inl ⟨k, hlt, hall.out, hm, rfl⟩)⟩, hm, rfl⟩
          · exact .inr ⟨_, .inr ⟨h66.out, .inr (.inr ⟨k, q, hlt, hall.out, hm, hf, hq, hF, rfl⟩)⟩, hF, rfl⟩
        go_wp2_with fail
        refine (checkMsg_any _ r k _ hlt (Hraw.out _ hl) Hr.out).mono ?_
        rintro e w4 ⟨E, hE, rfl, hb4⟩
        have hE' := hT.out E hE
        have HX4 := Lib.hid (HX.out.below hb4 HX.out.lt)
        have hl4 := hl.trans (hb4.mono hl.size)
        clear hb4 HX hl c0 hE hT
        rcases hE' with ⟨rfl, hn⟩ | ⟨f, hf, hf0, rfl⟩
        · have Hn := Lib.hid hn
          clear hn
          go_wp2_with fail
          go_roundw
          case rel => exact ⟨k + 1, by omega, by go_num, Hn, HX4, hl4⟩
          case measure => simp [intOf]; omega
        · have Hf := Lib.hid hf
          have Hf0 := Lib.hid hf0
          clear hf hf0
          unfold errV
          go_wp2_with fail
          go_ret
          exact ⟨f, Hf.out, .inr ⟨Hf0.out, rfl⟩, hl4⟩
      · have hge : (r.length : Int) ≤ (k : Int) := by omega
        have hend : decide (k < r.length) = false := decide_eq_false hlt
        obtain rfl : k = r.length := by omega
        go_wp2_with fail
        go_ret
        exact ⟨(0, 0, 0), .inr ⟨h66.out, .inl ⟨hall.out, rfl⟩⟩, .inl ⟨rfl, rfl⟩, hl⟩
theorem implRawOk_any (v : Value) (r : List RM) (w : World) (h : RawAt w (· < w.heap.size) v r) (hr : Small r) :
    Calls Tryz.prog 18 #[v] w fun e w' => ∃ f, First r f ∧ e = .returned (.bool (f.1 == 0)) ∧ Below w.heap.size w w' := by
  obtain ⟨u, rfl, hu⟩ := h
  obtain ⟨a, cap, rfl⟩ := hu.len
  have H := Lib.hid hu
  have Hr := Lib.hid hr
  clear hu hr
  have hl1 : Below w.heap.size w (w.alloc (.cells #[.slice a r.length cap] 26)) := (Below.refl _ _).alloc (Nat.le_refl _) _
  go_enter Tryz.func18, Tryz.ntmps18
  go_wp2_with fail
  refine (checkRaw_any _ r _ (⟨_, rfl, H.out.keep (below_sees hl1) fun b hb => by simp; omega⟩) Hr.out).mono ?_
  rintro e w2 ⟨f, hf, hcase, hb2⟩
  have Hf := Lib.hid hf
  have hl2 : Below w.heap.size w w2 := hl1.trans (hb2.mono (by simp))
  clear hf hb2
  rcases hcase with ⟨h0, rfl⟩ | ⟨h0, rfl⟩
  · have hb : (f.1 == 0) = true := by rw [beq_iff_eq]; exact h0
    go_wp2_with fail
    go_ret
    exact ⟨_, Hf.out, by rw [hb]; rfl, hl2⟩
  · have hb := neB2 h0
    unfold errV
    go_wp2_with fail
    go_ret
    exact ⟨_, Hf.out, by rw [hb]; rfl, hl2⟩
end Go.Proofs.YtcbohfncckpolaaGreatDoor.Num

/-
  The walk of the program's parseRaw: the valid description whose text the string is, laid anew in memory of its own, or the zero description and the sentinel.
-/
namespace Go.Proofs.YtcbohfncckpolaaGreatDoor.Num
open Go.RowKit Go.Proofs Go
set_option linter.unusedVariables false
set_option linter.unusedSimpArgs false

theorem mapM_allG {α β : Type} {f : α → Option β} : ∀ {l : List α} {r : List β}, l.length = r.length → (∀ i (h : i < l.length) (h' : i < r.length), f l[i] = some r[i]) → l.mapM f = some r
  | [], [], _, _ => rfl
  | [], y :: r, h, _ => by simp at h
  | x :: l, [], h, _ => by simp at h
  | x :: l, y :: r, h, hf => by
    rw [List.mapM_cons, show f x = some y from hf 0 (by simp) (by simp), mapM_allG (l := l) (r := r) (by simpa using h) fun i hi hi' => hf (i + 1) (by simpa using hi) (by simpa using hi')]
    rfl
/-- What parseRaw gives. -/
def PRaw (w : World) (s : List UInt8) (a : Addr) (e : Ending) (w' : World) : Prop :=
  (∃ r u ms, Good s r ∧ plain ms = r ∧ e = .returned (.tuple #[.agg #[u], .nilIface]) ∧ OwnIn w' w.heap.size w'.heap.size u ms) ∨ ((∀ r, ¬ Good s r) ∧ e = .returned (.tuple #[.agg #[.slice none 0 0], sentV a]))
theorem ownIn_nil (w : World) (lo hi : Nat) : OwnIn w lo hi (.slice none 0 0) [] := ⟨fun b hb => (by cases hb), fun j hj => (by simp at hj), .inl ⟨rfl, _, _, rfl⟩, .inl ⟨rfl, rfl⟩⟩
set_option maxHeartbeats 4000000 in
set_option maxRecDepth 100000 in
theorem implParseRaw_any (s : ByteArray) (a : Addr) (w : World) (hs : s.size ≤ 1048576) (hsh : w.ShapedOpen Tryz.prog) (hE : ErrText w a) :
    Calls Tryz.prog 21 #[.string s] w fun e w' => PRaw w s.data.toList a e w' ∧ Below w.heap.size w w' := by
  by_cases h0 : s.data.toList = []
  · obtain rfl := toList_emp h0
    clear hsh hE h0
    go_enter Tryz.func21, Tryz.ntmps21
    go_wp2_with fail
    have x0 := (Box.fresh w #[.slice none 0 0] 26).one.1
    refine bodyPost_ret (v := .tuple #[.agg #[.slice none 0 0], .nilIface]) (by simp [results, Tryz.results21, go_sem, x0]) rfl ?_
    exact ⟨.inl ⟨[], _, [], good_nil, rfl, rfl, ownIn_nil _ _ _⟩, (Below.refl _ _).alloc (Nat.le_refl _) _⟩
  · obtain ⟨i0, hi, hy0, hz1, hz2⟩ := info_parts infoM
    have hplen := partsF_length 59 s.data.toList
    have hpne := partsF_ne 59 s.data.toList
    have hpmem := partsF_mem 59 s.data.toList
    have hsl : s.data.toList.length = s.size := by simp
    have he : s.toList.isEmpty = false := by rw [ByteArray.toList_eq]; simpa using h0
    have HPF : Hid (∀ (t : ByteArray) (wx : World), t.size ≤ 1048576 → Below w.heap.size w wx → Calls Tryz.prog 45 #[.string t] wx fun e w' => PMsg wx (parseM t.data.toList) a e w' ∧ Below wx.heap.size wx w') := Lib.hid fun t wx ht hb => implParseMsg_any t a wx ht (shaped_below hsh hb) (hE.below hb)
    have HG : Hid (∀ r, (partsF 59 s.data.toList).mapM parseM = some r → Small r ∧ ∀ f, First r f → ((f.1 = 0 → Good s.data.toList r) ∧ (f.1 ≠ 0 → ∀ t, ¬ Good s.data.toList t))) := Lib.hid fun r hr => ⟨parsed_small hr (by omega), fun f hf => ⟨fun e => by obtain ⟨h6, hA⟩ := first_ok hf e; exact parse_good hr h6 hA, fun e t ht => by
      have h1 := good_parse ht h0
      rw [hr] at h1
      obtain rfl := Option.some.inj h1
      exact e (good_zero hf ht)⟩⟩
    have HN0 : Hid ((partsF 59 s.data.toList).mapM parseM = none → ∀ t, ¬ Good s.data.toList t) := Lib.hid fun hr t ht => by
      have h1 := good_parse ht h0
      rw [hr] at h1
      cases h1
    have hb1 : Below w.heap.size w (w.alloc (.cells #[.slice none 0 0] 26)) := (Below.refl _ _).alloc (Nat.le_refl _) _
    have hx1 := Box.fresh w #[.slice none 0 0] 26
    have HP := Lib.hid (implParts_any s 59 (w.alloc (.cells #[.slice none 0 0] 26)) hs (shaped_below hsh hb1))
    rw [show ((59 : UInt8).toNat : Int) = 59 from rfl] at HP
    generalize hws : partsF 59 s.data.toList = ws at hplen hpne hpmem HP HG HN0
    have Hws := Lib.hid hws
    clear hws hsh
    go_enter Tryz.func21, Tryz.ntmps21
    go_wp2_with fail
    generalize w.alloc (.cells #[.slice none 0 0] 26) = w1 at hb1 hx1 HP ⊢
    refine HP.out.mono ?_
    rintro e w2 ⟨v, P, rfl, hP, hown, hb2⟩
    rw [Hws.out] at hP
    obtain ⟨g, cap, rfl, hg, hS⟩ := slS_of (w := w) hown hP hpne
    have hl2 := hb1.trans (hb2.mono hb1.size)
    have HX2 := Lib.hid (hx1.below hb2 hx1.lt)
    have hz2' : w.heap.size < w2.heap.size := HX2.out.lt
    have hn : ws.length ≤ 1048577 := by omega
    have Hmem : Hid (∀ k (hk : k < ws.length), ws[k].length ≤ 1048576) := Lib.hid fun k hk => by have := hpmem _ (List.getElem_mem hk); omega
    have HS := Lib.hid hS
    have hgz : g < w2.heap.size := by
      obtain ⟨b, o, hp, hlt, _⟩ := HS.out.cells (List.length_pos_iff.2 hpne)
      injection hp with hp
      injection hp with h1
      rw [h1]; exact hlt
    have hz0 : 0 < w.heap.size := Nat.lt_of_le_of_lt (Nat.zero_le _) hE.2
    have HE := Lib.hid hE
    clear hown hP hS HP hplen hpmem hsl Hws he hb1 hx1 hb2 hE h0
    obtain ⟨L, hL⟩ : ∃ L : List RM, L = ws.map fun t => (parseM t).getD (0, []) := ⟨_, rfl⟩
    have hLl : L.length = ws.length := by rw [hL]; simp
    have HLk : Hid (∀ k (hk : k < ws.length) (hk' : k < L.length), ∀ f, parseM ws[k] = some f → L[k] = f) := Lib.hid fun k hk hk' f hf => by
      subst hL
      rw [List.getElem_map, hf]; rfl
    clear hL
    generalize hN : ws.length = N at hn hLl HS
    have HN := Lib.hid hN
    have hNp : 0 < N := by rw [← hN]; exact List.length_pos_iff.2 hpne
    clear hN hpne
    go_wp2_with (refine wpList_make_full _ rfl _ _ 24 rfl w2.heap.size 42 i0 _ 2 Tryz.underlying24 hi hy0 hz1 .i64 .i64 _ _ N rfl rfl rfl rfl (by rw [hz2]; omega) (by unfold maxLen; omega) (Nat.le_refl _) ?_; intro w3 hown3 hgr)
    have hrow3 : MRow w3 w2.heap.size N 0 L := MRow.start hown3
    have hb3 : Below w2.heap.size w2 w3 := (Below.refl _ _).grown hgr (Nat.le_refl _) (fun k hk => by cases hk)
    have hgm3 : w2.heap.size < w3.heap.size := hrow3.1.1
    have hb4 : Below w3.heap.size w3 (w3.alloc (.cells #[.slice (some ⟨w2.heap.size, 0, none⟩) N N] 26)) := (Below.refl _ _).alloc (Nat.le_refl _) _
    have hr4 := Box.fresh w3 #[.slice (some ⟨w2.heap.size, 0, none⟩) N N] 26
    have hb24 := hb3.trans (hb4.mono hb3.size)
    have HS4 := Lib.hid (HS.out.below hb24)
    have HX4 := Lib.hid (HX2.out.below hb24 hz2')
    have hrow4 := hrow3.below hb4
    have hl4 := hl2.trans (hb24.mono hl2.size)
    have HR4 := Lib.hid hr4
    clear hown3 hgr HS HX2 hrow3 hb3 hb4 hr4 hb24 hl2 hi hy0 hz1 hz2
    generalize w3.alloc (.cells #[.slice (some ⟨w2.heap.size, 0, none⟩) N N] 26) = w4 at HS4 HX4 HR4 hrow4 hl4 ⊢
    generalize w3.heap.size = gr at HR4 hgm3 ⊢
    generalize w2.heap.size = gm at HS4 hrow4 hz2' hgz hgm3 hg HR4 ⊢
    go_loopw [21] (fun y wr => ∃ k : Nat, k ≤ N ∧ y = .int .i64 k ∧ Hid (∀ j (hj : j < ws.length), j < k → ∀ hj' : j < L.length, parseM ws[j] = some L[j]) ∧ Hid (MRow wr gm N k L) ∧ Hid (∃ ms, plain ms = L.take k ∧ LaidN wr gm ms) ∧ Hid (SlS wr gm (some ⟨g, 0, none⟩) N cap ws) ∧ Hid (Box wr w.heap.size [.slice none 0 0]) ∧ Hid (Box wr gr [.slice (some ⟨gm, 0, none⟩) N N]) ∧ Below w.heap.size w wr) (fun y _ => N - (intOf y).toNat)
    case atStart => exact ⟨0, by omega, rfl, Lib.hid fun j hj h => by omega, Lib.hid hrow4, Lib.hid ⟨[], by simp [plain], LaidN.start _ _⟩, HS4, HX4, HR4, hl4⟩
    case round =>
      clear hrow4 HS4 HX4 HR4 hl4
      obtain ⟨k, hk, rfl, Hsome, hrow, hms, HS, HX, HR, hl⟩ := hrel
      by_cases hkl : k < N
      · have hkli : (k : Int) < (N : Int) := by omega
        have hkw : k < ws.length := by rw [HN.out]; exact hkl
        have hkL : k < L.length := by omega
        obtain ⟨b, o, hp, hblt, hcells⟩ := HS.out.cells (by omega)
        obtain ⟨rfl, rfl⟩ : g = b ∧ 0 = o := by injection hp with hp; injection hp with h1 h2; exact ⟨h1, h2⟩
        have q0 := hcells k hkw
        rw [Nat.zero_add] at q0
        have hkm := Hmem.out k hkw
        have HLf := Lib.hid (HLk.out k hkw hkL)
        have Hnext : Hid (∀ f, parseM ws[k] = some f → ∀ j (hj : j < ws.length), j < k + 1 → ∀ hj' : j < L.length, parseM ws[j] = some L[j]) := Lib.hid fun f hf j hj hjk hj' => by
          by_cases e : j = k
          · subst e; rw [HLf.out f hf]; exact hf
          · exact Hsome.out j hj (by omega) hj'
        have Hbad : Hid (parseM ws[k] = none → ws.mapM parseM = none) := Lib.hid (mapM_none k hkw)
        have Hput : Hid (∀ (wx : World) (u : Value), MRow wx gm N k L → FieldsAt wx (fun b => gm < b ∧ b < wx.heap.size) u L[k].2 → MRow ((wx.setCell ⟨gm, k * 2, none⟩ (.int .i64 L[k].1)).setCell ⟨gm, k * 2 + 1, none⟩ u) gm N (k + 1) L) := Lib.hid fun wx u h hu => h.put hkl hkL hu
        have Hsnoc : Hid (∀ (ms : List OM) (u : Value), plain ms = L.take k → plain (ms ++ [(L[k].1, u, L[k].2)]) = L.take (k + 1)) := Lib.hid fun ms u h => plain_snoc h hkL u
        generalize L[k] = Lk at HLf Hput Hsnoc
        generalize ws[k] = W at q0 hkm HLf Hnext Hbad
        obtain ⟨sW, esW⟩ : ∃ S : ByteArray, S = ⟨W.toArray⟩ := ⟨_, rfl⟩
        rw [← esW] at q0
        have HW : Hid (sW.data.toList = W) := Lib.hid (by rw [esW])
        have HPk := Lib.hid (HPF.out sW)
        have hsz : sW.size ≤ 1048576 := by rw [esW]; simpa [ByteArray.size] using hkm
        have hgz2 : gm < wr.heap.size := hrow.out.1.1
        clear hcells hp esW hkm
        go_wp2_with fail
        refine (HPk.out _ hsz hl).mono ?_
        rintro e w6 ⟨hcase, hb6⟩
        rw [HW.out] at hcase
        have hl6 := hl.trans (hb6.mono hl.size)
        have HX6 := Lib.hid (HX.out.below hb6 HX.out.lt)
        have HR6 := Lib.hid (HR.out.below hb6 HR.out.lt)
        have HS6 := Lib.hid (HS.out.below (hb6.mono (Nat.le_of_lt hgz2)))
        have Hb6 := Lib.hid hb6
        have hwr := hb6.size
        clear HX HR HS hl hb6 q0 HPk
        rcases hcase with ⟨i, l, u, hf, rfl, hu⟩ | ⟨hf, rfl⟩
        · have Hn2 := Lib.hid (Hnext.out _ hf)
          obtain rfl := HLf.out _ hf
          obtain ⟨up, uc, rfl⟩ := hu.len
          have hb7 : Below w6.heap.size w6 (w6.alloc (.cells #[.int .i64 i, .slice up l.length uc] 42)) := (Below.refl _ _).alloc (Nat.le_refl _) _
          have hbf := Box.fresh w6 #[.int .i64 i, .slice up l.length uc] 42
          have HU7 := Lib.hid (hu.below hb7)
          have hb67 := Hb6.out.trans (hb7.mono hwr)
          have hrow7 := hrow.out.below hb67
          have HS7 := Lib.hid (HS6.out.below (hb7.mono (by omega)))
          have HX7 := Lib.hid (HX6.out.below hb7 HX6.out.lt)
          have HR7 := Lib.hid (HR6.out.below hb7 HR6.out.lt)
          have hl7 := hl6.trans (hb7.mono hl6.size)
          have Hb67 := Lib.hid hb67
          clear hf HLf Hnext Hbad hu hb7 hb67 HS6 HX6 HR6 hl6 Hb6
          go_upto_region 9 with fail
          generalize (w6.alloc (.cells #[.int .i64 i, .slice up l.length uc] 42)) = w7 at hbf HU7 hrow7 HS7 HX7 HR7 hl7 Hb67 ⊢
          obtain ⟨y0, y1, _⟩ := hbf.two
          obtain ⟨r0, _⟩ := HR7.out.one
          obtain ⟨v0, v1, t0, t1, z0, z1⟩ := hrow7.1.slots2 hkl
          have hgm7 : gm < w7.heap.size := hrow7.1.1
          have HP7 := Lib.hid (Hput.out w7 (.slice up l.length uc) hrow7 (HU7.out.at_ hgz2))
          have HM7 : Hid (∃ ms, plain ms = L.take (k + 1) ∧ LaidN ((w7.setCell ⟨gm, k * 2, none⟩ (.int .i64 i)).setCell ⟨gm, k * 2 + 1, none⟩ (.slice up l.length uc)) gm ms) := Lib.hid (by
            obtain ⟨ms, hp, hL⟩ := hms.out
            exact ⟨ms ++ [(i, .slice up l.length uc, l)], Hsnoc.out ms _ hp, hL.push (plain_len hp (by omega)) Hb67.out hgz2 HU7.out ⟨_, t1⟩⟩)
          have HX8 := Lib.hid ((HX7.out.other (a := ⟨gm, k * 2, none⟩) (by simp; omega) (.int .i64 i)).other (a := ⟨gm, k * 2 + 1, none⟩) (by simp; omega) (.slice up l.length uc))
          have HR8 := Lib.hid ((HR7.out.other (a := ⟨gm, k * 2, none⟩) (by simp; omega) (.int .i64 i)).other (a := ⟨gm, k * 2 + 1, none⟩) (by simp; omega) (.slice up l.length uc))
          have hl8 := (hl7.setCell (p := ⟨gm, k * 2, none⟩) (by simp; omega) (.int .i64 i)).setCell (p := ⟨gm, k * 2 + 1, none⟩) (by simp; omega) (.slice up l.length uc)
          clear hrow7 HX7 HR7 hl7 hms hrow Hput Hsnoc
          go_wp2_with fail
          go_roundw
          case rel => exact ⟨k + 1, by omega, by go_num, Hn2, HP7, HM7, Lib.hid ((HS7.out.set (by simp) _).set (by simp) _), HX8, HR8, hl8⟩
          case measure => simp [intOf]; omega
        · have Hr : Hid (∀ t, ¬ Good s.data.toList t) := Lib.hid (HN0.out (Hbad.out hf))
          unfold sentV
          have hb7 : Below w6.heap.size w6 (w6.alloc (.cells #[.int .i64 0, .slice none 0 0] 42)) := (Below.refl _ _).alloc (Nat.le_refl _) _
          have hx7 := HX6.out.below hb7 HX6.out.lt
          have hl7 := hl6.trans (hb7.mono hl6.size)
          clear hf HLf Hnext Hbad Hput Hsnoc hb7 HX6 hl6
          go_upto_region 9 with fail
          generalize (w6.alloc (.cells #[.int .i64 0, .slice none 0 0] 42)) = w7 at hx7 hl7 ⊢
          obtain ⟨x0, xf0⟩ := hx7.one
          have hx8 := hx7.set 0 (.slice none 0 0)
          have hl8 := hl7.setCell (p := ⟨w.heap.size, 0, none⟩) (by simp) (.slice none 0 0)
          go_wp2_with fail
          generalize (w7.setCell ⟨w.heap.size, 0, none⟩ (.slice none 0 0)) = w8 at hx8 hl8 ⊢
          obtain ⟨y0, _⟩ := hx8.one
          refine bodyPost_ret (v := .tuple #[.agg #[.slice none 0 0], .iface 171 (.pointer (some a))]) (by simp [results, Tryz.results21, go_sem, y0]) rfl ?_
          exact ⟨.inr ⟨Hr.out, rfl⟩, hl8⟩
      · have hge : (N : Int) ≤ (k : Int) := by omega
        have hend : decide (k < N) = false := decide_eq_false hkl
        obtain rfl : k = N := by omega
        have hmap : ws.mapM parseM = some L := mapM_allG (by rw [HN.out, hLl]) fun i hi hi' => Hsome.out i hi (by rw [← HN.out]; exact hi) hi'
        obtain ⟨hSm, hF⟩ := HG.out L hmap
        have HF := Lib.hid hF
        have Hown : Hid (∃ ms, plain ms = L ∧ OwnIn wr gm wr.heap.size (.slice (some ⟨gm, 0, none⟩) k k) ms) := Lib.hid (by
          obtain ⟨ms, hp, hL⟩ := hms.out
          have hn : ms.length = k := plain_len hp (by omega)
          rw [show L.take k = L from List.take_of_length_le (by omega)] at hp
          have hrow2 : MRow wr gm L.length L.length L := by rw [hLl]; exact hrow.out
          have h1 := hrow2.done k (by omega)
          have h2 := hrow.out.1
          rw [hLl, ← hp, ← hn] at h1
          rw [← hn] at h2
          have h3 := hL.done h2 h1
          rw [hn] at h3
          exact ⟨ms, hp, h3⟩)
        have hgmr : gm < wr.heap.size := hrow.out.1.1
        clear hms hrow Hsome HN0 HG HS hmap hF
        obtain ⟨r0, _⟩ := HR.out.one
        have Hraw : Hid (RawAt wr (· < wr.heap.size) (.agg #[.slice (some ⟨gm, 0, none⟩) k k]) L) := Lib.hid (by
          obtain ⟨ms, hp, hO⟩ := Hown.out
          have := hO.raw
          rw [hp] at this
          exact this.keep (fun _ _ _ => rfl) fun b hb => hb.2)
        go_wp2_with fail
        refine (implRawOk_any _ L wr Hraw.out hSm).mono ?_
        rintro e w6 ⟨f, hf, rfl, hb6⟩
        obtain ⟨hg1, hg2⟩ := HF.out f hf
        have Hown6 : Hid (∃ ms, plain ms = L ∧ OwnIn w6 gm wr.heap.size (.slice (some ⟨gm, 0, none⟩) k k) ms) := Lib.hid (by
          obtain ⟨ms, hp, hO⟩ := Hown.out
          exact ⟨ms, hp, hO.below hb6 (Nat.le_refl _)⟩)
        have hsz6 := hb6.size
        have HX6 := Lib.hid (HX.out.below hb6 HX.out.lt)
        have HR6 := Lib.hid (HR.out.below hb6 HR.out.lt)
        have hl6 := hl.trans (hb6.mono hl.size)
        have HE6 := Lib.hid (HE.out.below hl6)
        obtain ⟨x0, xf0⟩ := HX6.out.one
        obtain ⟨r1, _⟩ := HR6.out.one
        clear hf HX HR hl hb6 Hown Hraw HF r0
        by_cases hf0 : f.1 = 0
        · have HG1 := Lib.hid (hg1 hf0)
          rw [show (f.1 == 0) = true from beq_iff_eq.2 hf0]
          have hx8 := HX6.out.set 0 (.slice (some ⟨gm, 0, none⟩) k k)
          have hl8 := hl6.setCell (p := ⟨w.heap.size, 0, none⟩) (by simp) (.slice (some ⟨gm, 0, none⟩) k k)
          have Hown8 : Hid (∃ ms, plain ms = L ∧ OwnIn (w6.setCell ⟨w.heap.size, 0, none⟩ (.slice (some ⟨gm, 0, none⟩) k k)) w.heap.size (w6.setCell ⟨w.heap.size, 0, none⟩ (.slice (some ⟨gm, 0, none⟩) k k)).heap.size (.slice (some ⟨gm, 0, none⟩) k k) ms) := Lib.hid (by
            obtain ⟨ms, hp, hO⟩ := Hown6.out
            exact ⟨ms, hp, (hO.off (p := ⟨w.heap.size, 0, none⟩) hz2' hsz6 _).wide (by omega) (by simpa [World.setCell] using hsz6)⟩)
          clear hg1 hg2 HX6 hl6 Hown6
          go_wp2_with fail
          generalize (w6.setCell ⟨w.heap.size, 0, none⟩ (.slice (some ⟨gm, 0, none⟩) k k)) = w8 at hx8 hl8 Hown8 ⊢
          obtain ⟨y0, _⟩ := hx8.one
          refine bodyPost_ret (v := .tuple #[.agg #[.slice (some ⟨gm, 0, none⟩) k k], .nilIface]) (by simp [results, Tryz.results21, go_sem, y0]) rfl ?_
          obtain ⟨ms, hp, hO⟩ := Hown8.out
          exact ⟨.inl ⟨L, _, ms, HG1.out, hp, rfl, hO⟩, hl8⟩
        · have HG2 := Lib.hid (hg2 hf0)
          rw [show (f.1 == 0) = false from beq_eq_false_iff_ne.2 hf0]
          obtain ⟨e0, e1⟩ := HE6.out
          unfold sentV at e0
          have hne1 : ¬ ((0 : Nat) = w.heap.size) := by omega
          have hne2 : ¬ (w.heap.size = 0) := by omega
          clear hg1 hg2 Hown6 HR6 r1
          go_wp2_with fail
          go_region
          all_goals
            go_wp2_with fail
            refine bodyPost_ret (v := .tuple #[.agg #[.slice none 0 0], .iface 171 (.pointer (some a))]) (by simp [results, Tryz.results21, go_sem, x0]) rfl ?_
            refine ⟨.inr ⟨HG2.out, rfl⟩, ?_⟩
            first
              | exact (hl6.setCell (by simp) _).drew
              | exact hl6.drew.setCell (by simp) _
              | (trace_state; sorry)
end Go.Proofs.YtcbohfncckpolaaGreatDoor.Num

/-
  The walk of the program's ReadRaw: the valid description whose text the string is and true, in memory of its own, or the zero description and false.
-/
namespace Go.Proofs.YtcbohfncckpolaaGreatDoor.Num
open Go.RowKit Go.Proofs Go
set_option linter.unusedVariables false
set_option linter.unusedSimpArgs false

/-- What ReadRaw gives. -/
def RRaw (w : World) (s : List UInt8) (e : Ending) (w' : World) : Prop :=
  (∃ r u ms, Good s r ∧ plain ms = r ∧ e = .returned (.tuple #[.agg #[u], .bool true]) ∧ OwnIn w' w.heap.size w'.heap.size u ms) ∨ ((∀ r, ¬ Good s r) ∧ e = .returned (.tuple #[.agg #[.slice none 0 0], .bool false]))
def OwnH (w : World) (lo hi : Nat) (u : Value) (ms : List OM) : Prop := OwnIn w lo hi u ms ∧ hi ≤ w.heap.size
theorem OwnH.set {w : World} {lo hi : Nat} {u : Value} {ms : List OM} (h : OwnH w lo hi u ms) {p : Addr} (hp : p.block < lo) (v : Value) : OwnH (w.setCell p v) lo hi u ms := ⟨h.1.off hp h.2 v, by simpa [World.setCell] using h.2⟩
theorem OwnH.alloc {w : World} {lo hi : Nat} {u : Value} {ms : List OM} (h : OwnH w lo hi u ms) (o : Obj) : OwnH (w.alloc o) lo hi u ms := ⟨h.1.below ((Below.refl _ _).alloc (Nat.le_refl _) _) h.2, by simp; have := h.2; omega⟩
theorem OwnH.drew {w : World} {lo hi : Nat} {u : Value} {ms : List OM} (h : OwnH w lo hi u ms) : OwnH w.drew lo hi u ms := ⟨h.1.drew, h.2⟩
set_option maxHeartbeats 2000000 in
set_option maxRecDepth 100000 in
theorem implReadRaw_any (s : ByteArray) (a : Addr) (w : World) (hs : s.size ≤ 1048576) (hsh : w.ShapedOpen Tryz.prog) (hE : ErrText w a) :
    Calls Tryz.prog 8 #[.string s] w fun e w' => RRaw w s.data.toList e w' ∧ Below w.heap.size w w' := by
  have hb1 : Below w.heap.size w (w.alloc (.cells #[.slice none 0 0] 26)) := (Below.refl _ _).alloc (Nat.le_refl _) _
  have hx1 := Box.fresh w #[.slice none 0 0] 26
  have HP := Lib.hid (implParseRaw_any s a (w.alloc (.cells #[.slice none 0 0] 26)) hs (shaped_below hsh hb1) (hE.below hb1))
  have hz0 : 0 < w.heap.size := Nat.lt_of_le_of_lt (Nat.zero_le _) hE.2
  have hne1 : ¬ ((0 : Nat) = w.heap.size) := by omega
  have hne2 : ¬ (w.heap.size = 0) := by omega
  have HI := Lib.hid (is_nil a)
  have HJ := Lib.hid (is_same a)
  have hz1 : (w.alloc (.cells #[.slice none 0 0] 26)).heap.size = w.heap.size + 1 := by simp
  clear hsh
  go_enter Tryz.func8, Tryz.ntmps8
  go_wp2_with fail
  generalize (w.alloc (.cells #[.slice none 0 0] 26)) = w1 at hb1 hx1 HP hz1 ⊢
  refine HP.out.mono ?_
  rintro e w2 ⟨hcase, hb2⟩
  have hl2 := hb1.trans (hb2.mono hb1.size)
  have HX2 := Lib.hid (hx1.below hb2 hx1.lt)
  have HE2 := Lib.hid (hE.below hl2)
  have hz2 : w.heap.size < w2.heap.size := HX2.out.lt
  obtain ⟨c0, k0⟩ := HX2.out.one
  obtain ⟨e0, e1⟩ := HE2.out
  unfold PRaw at hcase
  rw [hz1] at hcase
  unfold sentV at e0 hcase
  clear HP hb1 hx1 hb2 hz1
  rcases hcase with ⟨r, u, ms, hg, hp, rfl, hO⟩ | ⟨hg, rfl⟩
  · have HG := Lib.hid hg
    have HPl := Lib.hid hp
    have HO := Lib.hid (show OwnH w2 (w.heap.size + 1) w2.heap.size u ms from ⟨hO, Nat.le_refl _⟩)
    obtain ⟨up, uc, rfl⟩ := hO.at_.len
    clear hg hp hO
    generalize (plain ms).length = n at HO ⊢
    go_wp2_with fail
    go_region_with (go_at_call 22; refine (HI.out _).mono ?_; rintro e w4 ⟨rfl, rfl⟩)
    all_goals
      go_wp2_with fail
      refine bodyPost_ret (v := .tuple #[.agg #[.slice up n uc], .bool true]) (by simp [results, Tryz.results8, go_sem, c0, hz2]) rfl ?_
      have h := ((HO.out.set (p := ⟨w.heap.size, 0, none⟩) (by simp) (.slice up n uc)).alloc (.cells #[.slice up n uc] 26)).drew
      exact ⟨.inl ⟨r, .slice up n uc, ms, HG.out, HPl.out, rfl, h.1.wide (by omega) h.2⟩, ((hl2.setCell (by simp) _).alloc (by simpa [World.setCell] using Nat.le_of_lt hz2) _).drew⟩
  · have HG := Lib.hid hg
    clear hg
    go_wp2_with fail
    go_region_with (go_at_call 22; refine (HJ.out _).mono ?_; rintro e w4 ⟨rfl, rfl⟩)
    all_goals
      go_wp2_with fail
      refine bodyPost_ret (v := .tuple #[.agg #[.slice none 0 0], .bool false]) (by simp [results, Tryz.results8, go_sem, c0, hz2]) rfl ?_
      refine ⟨.inr ⟨HG.out, rfl⟩, ?_⟩
      first
        | exact ((hl2.setCell (by simp) _).alloc (by simpa [World.setCell] using Nat.le_of_lt hz2) _).drew
        | exact (hl2.setCell (by simp) _).drew.alloc (by simpa [World.setCell] using Nat.le_of_lt hz2) _
        | (trace_state; sorry)
end Go.Proofs.YtcbohfncckpolaaGreatDoor.Num

/-
  The two ReadRaws give one answer: the valid description whose text the string is, or none.
-/
namespace Go.Proofs.YtcbohfncckpolaaGreatDoor.Num
open Go.RowKit Go.Proofs Go
set_option linter.unusedVariables false
theorem readRaw_case (s : List UInt8) : ∃ (r : List RM) (b : Bool), ((Good s r ∧ b = true) ∨ ((∀ t, ¬ Good s t) ∧ r = [] ∧ b = false)) ∧ Small r := by
  by_cases h : ∃ r, Good s r
  · obtain ⟨r, hr⟩ := h
    have hf := hr.few
    exact ⟨r, true, .inl ⟨hr, rfl⟩, by have := hf.1; omega, fun m hm => by have := hf.2.1 m hm; omega⟩
  · exact ⟨[], false, .inr ⟨fun t ht => h ⟨t, ht⟩, rfl, rfl⟩, by simp, fun m hm => by cases hm⟩
theorem SRaw.told {w w' : World} {s : List UInt8} {r : List RM} {b : Bool} {e : Ending} (h : SRaw w s e w') (hrb : (Good s r ∧ b = true) ∨ ((∀ t, ¬ Good s t) ∧ r = [] ∧ b = false)) : ∃ v, e = .returned (.tuple #[v, .bool b]) ∧ RawAt w' (fun b => w.heap.size ≤ b ∧ b < w'.heap.size) v r := by
  rcases h with ⟨t, v, hg, rfl, ha⟩ | ⟨hg, rfl⟩
  · rcases hrb with ⟨hr, rfl⟩ | ⟨hr, _⟩
    · obtain rfl := hr.one hg
      exact ⟨v, rfl, ha⟩
    · exact absurd hg (hr t)
  · rcases hrb with ⟨hr, rfl⟩ | ⟨hr, rfl, rfl⟩
    · exact absurd hr (hg r)
    · exact ⟨_, rfl, _, rfl, .inl ⟨rfl, _, _, rfl⟩⟩
theorem RRaw.told {w w' : World} {s : List UInt8} {r : List RM} {b : Bool} {e : Ending} (h : RRaw w s e w') (hrb : (Good s r ∧ b = true) ∨ ((∀ t, ¬ Good s t) ∧ r = [] ∧ b = false)) : ∃ u ms, plain ms = r ∧ e = .returned (.tuple #[.agg #[u], .bool b]) ∧ OwnIn w' w.heap.size w'.heap.size u ms := by
  rcases h with ⟨t, u, ms, hg, hp, rfl, ha⟩ | ⟨hg, rfl⟩
  · rcases hrb with ⟨hr, rfl⟩ | ⟨hr, _⟩
    · obtain rfl := hr.one hg
      exact ⟨u, ms, hp, rfl, ha⟩
    · exact absurd hg (hr t)
  · rcases hrb with ⟨hr, rfl⟩ | ⟨hr, rfl, rfl⟩
    · exact absurd hr (hg r)
    · exact ⟨_, [], rfl, rfl, ownIn_nil _ _ _⟩
end Go.Proofs.YtcbohfncckpolaaGreatDoor.Num
