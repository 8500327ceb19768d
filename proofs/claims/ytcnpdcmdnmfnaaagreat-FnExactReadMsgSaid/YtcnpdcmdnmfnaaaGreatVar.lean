/-
  The walks of the reference's PutVar, VarLen, PadVar and GetVar: they give what the plain lemmas on varints say; only new memory is written.
-/
import Derived.Test.YtcnpdcmdnmfnaaaGreatOwnM
import Derived.Test.YtcnpdcmdnmfnaaaGreatIn
import Derived.Test.YtcnpdcmdnmfnaaaGreatVarMath
import Derived.Test.YtcnpdcmdnmfnaaaGreatProg
import Derived.WalkLawsBesides
import Derived.WalkSpells
import Derived.LoopTactic
namespace Go.Proofs.YtcnpdcmdnmfnaaaGreat.Num
open Go.RowKit Go.Proofs

theorem info_u8v : (Tryz.prog.info? 5).map (fun i => (i.zero, i.size, i.bytes)) = some (some (.int .u8 0), 1, 1) := by kernel_rfl
def varS (u : Nat) : ByteArray := ⟨(Var.put u).toArray⟩
set_option maxHeartbeats 800000 in
theorem specPutVar_any (u : Nat) (w : World) (hu : u ≤ 18446744073709551615) :
    Calls Tryz.prog 111 #[.int .u64 u] w fun e w' => e = .returned (.string (varS u)) ∧ Below w.heap.size w w' := by
  obtain ⟨i0, hi, hz0, hz1, hz2⟩ := info_parts info_u8v
  go_enter Tryz.func111, Tryz.ntmps111
  go_wp2_with fail
  go_loopw [0, 3] (fun x v wr => ∃ (k : Nat) (l : List UInt8), x = .int .u64 k ∧ k ≤ 18446744073709551615 ∧ OwnB wr w.heap.size 5 v l ∧ Hid (Var.put u = l ++ Var.put k) ∧ l.length ≤ 10 ∧ Below w.heap.size w wr) (fun x _ _ => (intOf x).toNat)
  case atStart => exact ⟨u, [], rfl, hu, OwnB.empty (Nat.le_refl _), Lib.hid rfl, by simp, (Below.refl _ _).alloc (Nat.le_refl _) _⟩
  case round =>
    obtain ⟨k, l, rfl, hk, hown, hput, hl, hb⟩ := hrel
    have hsz := hb.size
    by_cases hlt : (127 : Int) < k
    · have hw : IntKind.u8.wrap ((k : Int) % 128 + 128) = (k : Int) % 128 + 128 := IntWalk.u8_in _ (by omega)
      have hbv : [Value.int .u8 ((k : Int) % 128 + 128)] = [Var.by' (k % 128 + 128)].map byteV := by simp only [List.map_cons, List.map_nil, byteV]; rw [Var.by_toNat (by omega)]; rfl
      have Hbv := Lib.hid hbv; clear hbv
      go_wp2_with (at_builtin; refine wpList_appB rfl _ _ 22 rfl w.heap.size 5 i0 Tryz.underlying22 hi hz0 hz1 hz2 _ l rfl (hown.alloc _) wr.heap.size _ (0, 0) (heap_alloc_new _ _) 1 1 rfl _ Hbv.out rfl (by omega) (by omega) (by simp; omega) ?_; intro v' w2 hown2 hb2)
      have Hp : Hid (Var.put u = (l ++ [Var.by' (k % 128 + 128)]) ++ Var.put (k / 128)) := Lib.hid (by rw [hput.out, Var.put_big (by omega), List.append_assoc]; rfl)
      have hl2 : (l ++ [Var.by' (k % 128 + 128)]).length ≤ 10 := by
        have := congrArg List.length Hp.out
        rw [Var.put_length, List.length_append] at this
        have := Var.varLen_64 hu
        omega
      have Hl2 := Lib.hid hl2; clear hl2
      have hb3 : Below w.heap.size wr w2 := ((Below.refl _ _).alloc hsz _).trans hb2
      go_wp2_with fail
      go_roundw
      case rel => exact ⟨k / 128, _, by go_num, by omega, hown2, Hp, Hl2.out, hb.trans hb3⟩
      case measure => simp [intOf]; omega
    · have hw : IntKind.u8.wrap (k : Int) = (k : Int) := IntWalk.u8_in _ (by omega)
      have hbv : [Value.int .u8 (k : Int)] = [Var.by' k].map byteV := by simp only [List.map_cons, List.map_nil, byteV]; rw [Var.by_toNat (by omega)]
      have Hbv := Lib.hid hbv; clear hbv
      have Hp : Hid (Var.put u = l ++ [Var.by' k]) := Lib.hid (by rw [hput.out, Var.put_small (by omega)])
      go_wp2_with (at_builtin; refine wpList_appB rfl _ _ 22 rfl w.heap.size 5 i0 Tryz.underlying22 hi hz0 hz1 hz2 _ l rfl (hown.alloc _) wr.heap.size _ (0, 0) (heap_alloc_new _ _) 1 1 rfl _ Hbv.out rfl (by omega) (by omega) (by simp; omega) ?_; intro v' w2 hown2 hb2; have hcv := run_convB (P := Tryz.prog) 22 9 Tryz.underlying22 Tryz.underlying5 Tryz.underlying9 hown2)
      have hb3 : Below w.heap.size wr w2 := ((Below.refl _ _).alloc hsz _).trans hb2
      go_wp2_with fail
      go_ret
      exact ⟨by unfold varS; rw [Hp.out]; rfl, hb.trans hb3⟩
theorem specVarLen_any (u : Nat) (w : World) (hu : u ≤ 18446744073709551615) :
    Calls Tryz.prog 110 #[.int .u64 u] w fun e w' => e = .returned (.int .i64 (Var.varLen u)) ∧ Below w.heap.size w w' := by
  have hl : ((varS u).size : Int) = (Var.varLen u : Int) := by unfold varS ByteArray.size; simp [Var.put_length]
  go_enter Tryz.func110, Tryz.ntmps110
  go_wp2_with fail
  refine (specPutVar_any u _ hu).mono ?_
  rintro e w1 ⟨rfl, hb⟩
  go_wp2_with fail
  go_ret
  exact ⟨rfl, hb⟩
/-- u in n bytes, or nothing. -/
def padS (u : Nat) (n : Int) : ByteArray := if (Var.varLen u : Int) ≤ n ∧ n ≤ 10 then ⟨(Var.enc n.toNat u).toArray⟩ else ⟨#[]⟩
theorem spoilF' {w : World} {b k n : Nat} {C : Array Value} {T : TypeId} (h : w.heap[b]? = some (.cells C T (n, n + 1))) (hk : k < n) : w.frozen? ⟨b, k, none⟩ = false := by
  simp [World.frozen?, h]; omega
def lenV : Value → Nat
  | .slice _ n _ => n
  | _ => 0
theorem strOwn (w : World) (l : List UInt8) : ∃ v w', (convert 9 22 (.string ⟨l.toArray⟩)).run Tryz.prog w = .ok v w' ∧ OwnM w' w.heap.size v l ∧ Below w.heap.size w w' := by
  have h := run_bytes_of_string (P := Tryz.prog) w 9 22 5 ⟨l.toArray⟩ Tryz.underlying9 Tryz.underlying22 Tryz.underlying5
  have hsz : (ByteArray.mk l.toArray).size = l.length := by simp [ByteArray.size]
  have hcap : l.length ≤ grownCap w l.length 0 5 := grownCap_ge _ _ _ _
  rw [hsz] at h
  generalize grownCap w l.length 0 5 = cap at h hcap
  have hrow : (bytesRow ⟨l.toArray⟩ cap).size = cap := by simp [bytesRow, ByteArray.size]; omega
  rw [hrow] at h
  refine ⟨_, _, h, OwnM.of_cells (heap_alloc_new w.drew _) (Nat.le_refl _) hcap (by rw [hrow]; exact Nat.le_refl _) (fun j hj => ?_) (fun j hj => ?_), ((Below.refl w.heap.size w).alloc (Nat.le_refl _) _).drew⟩
  · have hj2 : j < l.toArray.size := by simpa using hj
    simp only [bytesRow, Array.getElem?_append, Array.size_map, Array.getElem?_map]
    rw [if_pos hj2, Array.getElem?_eq_getElem hj2]
    simp [byteV]
  · exact spoilF' (heap_alloc_new w.drew _) hj
set_option maxRecDepth 20000 in
set_option maxHeartbeats 800000 in
theorem specPadVar_any (u : Nat) (n : Int) (w : World) (hu : u ≤ 18446744073709551615) :
    Calls Tryz.prog 109 #[.int .u64 u, .int .i64 n] w fun e w' => e = .returned (.string (padS u n)) ∧ Below w.heap.size w w' := by
  obtain ⟨i0, hi, hz0, hz1, hz2⟩ := info_parts info_u8v
  go_enter Tryz.func109, Tryz.ntmps109
  go_wp2_with fail
  refine (specPutVar_any u _ hu).mono ?_
  rintro e w1 ⟨rfl, hb1⟩
  obtain ⟨v0, w2, hcv, hown0, hb2⟩ := strOwn w1 (Var.put u)
  have hcv' : (convert 9 22 (.string (varS u))).run Tryz.prog w1 = .ok v0 w2 := hcv
  clear hcv
  obtain ⟨g0, cap0, hv0, hB0, hg0⟩ := hown0.value
  have hsz1 := hb1.size
  have hb3 := hb1.trans (hb2.mono hsz1)
  subst hv0
  rw [Var.put_length] at hown0 hcv'
  have hlen : (Var.varLen u : Int) ≤ 10 := by have := Var.varLen_64 hu; omega
  go_wp2_with fail
  refine (specIn_any _ _ _ _).mono ?_
  rintro e w3 ⟨rfl, rfl⟩
  by_cases hin : (Var.varLen u : Int) ≤ n ∧ n ≤ 10
  · have hd : decide ((Var.varLen u : Int) ≤ n ∧ n ≤ 10) = true := decide_eq_true hin
    obtain ⟨N, rfl⟩ := Int.eq_ofNat_of_zero_le (show 0 ≤ n by omega)
    have hN10 : N ≤ 10 := by omega
    have hNl : Var.varLen u ≤ N := by omega
    have hpos := Var.varLen_pos u
    go_wp2_with fail
    go_loopw [5] (fun v wr => ∃ m cap : Nat, Var.varLen u ≤ m ∧ m ≤ N ∧ ∃ g, v = .slice (some ⟨g, 0, none⟩) m cap ∧ Hid (OwnM wr w.heap.size v (Var.enc m u)) ∧ Below w.heap.size w wr) (fun v _ => N - lenV v)
    case atStart => exact ⟨_, cap0, Nat.le_refl _, hNl, g0, rfl, Lib.hid (hown0.mono hsz1), hb3⟩
    case round =>
      obtain ⟨m, cap, hm1, hm2, g, rfl, hown, hb⟩ := hrel
      clear hown0 hcv' hb3 hb1 hb2
      by_cases hlt : m < N
      · obtain ⟨i, c, he, hc, hi1⟩ := Var.enc_last m u (by omega)
        obtain ⟨p, rfl⟩ : ∃ p, m = p + 1 := ⟨m - 1, by omega⟩
        have hip : i.length = p := by omega
        have hown1 := hown.out
        rw [he] at hown1
        have hcf := hown1.cell p (by simp; omega)
        rw [List.getElem_append_right (by omega)] at hcf
        simp only [hip, Nat.sub_self, List.getElem_cons_zero] at hcf
        obtain ⟨hc1, hc2⟩ := hcf
        have hbv : byteV (Var.by' (c.toNat + 128)) = .int .u8 ((c.toNat : Int) + 128) := by unfold byteV; rw [Var.by_toNat (by omega)]; rfl
        have hset : (i ++ [c]).set p (Var.by' (c.toNat + 128)) = i ++ [Var.by' (c.toNat + 128)] := by rw [List.set_append_right _ _ (by omega)]; simp [hip]
        have hst := hown1.store p (by simp; omega) (Var.by' (c.toNat + 128))
        rw [hbv, hset] at hst
        have Hst := Lib.hid hst
        have hul : (i ++ [Var.by' (c.toNat + 128)]).length + 1 ≤ 140737488355328 := by simp; omega
        have hmore := Lib.hid (Var.enc_more p u i c he (Nat.lt_of_lt_of_le (Var.lt_pow_varLen u) (Nat.pow_le_pow_right (by omega) hm1)))
        obtain ⟨hBg, hgw⟩ := hown1.place
        have hadd : IntKind.u8.wrap ((c.toNat : Int) + 128) = (c.toNat : Int) + 128 := IntWalk.u8_in _ (by omega)
        have hsz := hb.size
        have Hblk : Hid (((wr.setCell ⟨g, p, none⟩ (.int .u8 ((c.toNat : Int) + 128))).alloc (.cells #[Value.int .u8 0] 5)).heap[wr.heap.size]? = some (.cells #[Value.int .u8 0] 5 (0, 0))) := Lib.hid (by have h := heap_alloc_new (wr.setCell ⟨g, p, none⟩ (.int .u8 ((c.toNat : Int) + 128))) (.cells #[Value.int .u8 0] 5); rw [show (wr.setCell ⟨g, p, none⟩ (.int .u8 ((c.toNat : Int) + 128))).heap.size = wr.heap.size by simp [World.setCell]] at h; exact h)
        have Hsz : Hid (w.heap.size ≤ ((wr.setCell ⟨g, p, none⟩ (.int .u8 ((c.toNat : Int) + 128))).alloc (.cells #[Value.int .u8 0] 5)).heap.size) := Lib.hid (by simp [World.setCell]; omega)
        clear hown1 hst hset he hbv hul
        have Hul : Hid ((i ++ [Var.by' (c.toNat + 128)]).length + 1 ≤ 140737488355328) := Lib.hid (by simp; omega)
        go_wp2_with (at_builtin; refine wpList_appM rfl _ _ 22 rfl w.heap.size 5 i0 Tryz.underlying22 hi hz0 hz1 hz2 _ _ rfl (Hst.out.alloc _) wr.heap.size _ (0, 0) Hblk.out 1 1 rfl [Var.by' 0] rfl rfl Hul.out Hsz.out ?_; intro v' w4 hown4 hb4)
        have hb5 : Below w.heap.size wr w4 := (((Below.refl _ _).setCell (p := ⟨g, p, none⟩) hBg _).alloc (by simp [World.setCell]; omega) _).trans hb4
        have hfin : OwnM w4 w.heap.size v' (Var.enc (p + 2) u) := by rw [hmore.out]; simpa using hown4
        obtain ⟨g', cap', hv', _, _⟩ := hfin.value
        rw [Var.enc_length] at hv'
        subst hv'
        exact ⟨⟨p + 2, cap', by omega, by omega, g', rfl, Lib.hid hfin, hb.trans hb5⟩, by simp only [lenV]; omega⟩
      · have hmN : m = N := by omega
        subst hmN
        have hcv := run_convM (P := Tryz.prog) 22 9 Tryz.underlying22 Tryz.underlying5 Tryz.underlying9 hown.out
        go_wp2_with fail
        go_ret
        exact ⟨by unfold padS; rw [if_pos hin]; rfl, hb⟩
  · have hd : decide ((Var.varLen u : Int) ≤ n ∧ n ≤ 10) = false := decide_eq_false hin
    go_wp2_with fail
    go_ret
    exact ⟨by unfold padS; rw [if_neg hin]; rfl, hb3⟩
end Go.Proofs.YtcnpdcmdnmfnaaaGreat.Num
