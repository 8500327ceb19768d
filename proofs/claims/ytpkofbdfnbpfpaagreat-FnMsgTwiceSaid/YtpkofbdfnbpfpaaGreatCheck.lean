/-
  The walks of the reference's l6HasId, l6HasNumber and MsgCode: they give what the plain definitions here say; only new memory is written.
-/
import Derived.Test.YtpkofbdfnbpfpaaGreatEqRaw
import Derived.Test.YtpkofbdfnbpfpaaGreatKind
import Derived.Test.YtpkofbdfnbpfpaaGreatTag
namespace Go.Proofs.YtpkofbdfnbpfpaaGreat.Num
open Go.RowKit Go.Proofs
set_option linter.unusedVariables false
set_option linter.unusedSimpArgs false

theorem neB2 {x c : Int} (h : x ≠ c) : (x == c) = false := by rw [beq_eq_false_iff_ne]; exact h
def hasId (r : List RM) (id : Int) (n : Nat) : Bool := (r.take n).any fun m => m.1 == id
def hasNum (l : List RF) (x : Int) : Bool := l.any fun f => f.1 == x
theorem hasId_yes {r : List RM} {id : Int} {n k : Nat} (hk : k < r.length) (hn : k < n) (h : r[k].1 = id) : hasId r id n = true := by
  unfold hasId
  rw [List.any_eq_true]
  refine ⟨r[k], ?_, by rw [beq_iff_eq]; exact h⟩
  rw [List.mem_take_iff_getElem]
  exact ⟨k, by omega, rfl⟩
theorem hasId_no {r : List RM} {id : Int} {n : Nat} (h : ∀ j (hj : j < r.length), j < n → r[j].1 ≠ id) : hasId r id n = false := by
  unfold hasId
  rw [List.any_eq_false]
  intro m hm
  rw [List.mem_take_iff_getElem] at hm
  obtain ⟨j, hj, rfl⟩ := hm
  have := h j (by omega) (by omega)
  simpa using this
theorem hasNum_yes {l : List RF} {x : Int} {k : Nat} (hk : k < l.length) (h : l[k].1 = x) : hasNum l x = true := by
  unfold hasNum
  rw [List.any_eq_true]
  exact ⟨l[k], List.getElem_mem hk, by rw [beq_iff_eq]; exact h⟩
theorem hasNum_no {l : List RF} {x : Int} (h : ∀ j (hj : j < l.length), l[j].1 ≠ x) : hasNum l x = false := by
  unfold hasNum
  rw [List.any_eq_false]
  intro m hm
  obtain ⟨j, hj, rfl⟩ := List.getElem_of_mem hm
  simpa using h j hj
set_option maxHeartbeats 1000000 in
theorem specHasId_any (v : Value) (r : List RM) (id : Int) (n : Nat) (w : World) (h : RawAt w (· < w.heap.size) v r) (hn : n ≤ r.length) (hr : r.length ≤ 1048576) :
    Calls Tryz.prog 194 #[v, .int .i64 id, .int .i64 n] w fun e w' => e = .returned (.bool (hasId r id n)) ∧ Below w.heap.size w w' := by
  obtain ⟨R, hR⟩ : ∃ R, hasId r id n = R := ⟨_, rfl⟩
  rw [hR]
  have HR := Lib.hid hR
  clear hR
  obtain ⟨u, rfl, hu⟩ := h
  obtain ⟨a, cap, rfl⟩ := hu.len
  have H := Lib.hid hu
  clear hu
  go_enter Tryz.func194, Tryz.ntmps194
  go_wp2_with fail
  go_loopw [7] (fun i wr => ∃ k : Nat, k ≤ n ∧ i = .int .i64 k ∧ Hid (∀ j (hj : j < r.length), j < k → r[j].1 ≠ id) ∧ Hid (Box wr w.heap.size [.slice a r.length cap]) ∧ Below w.heap.size w wr) (fun i _ => n - (intOf i).toNat)
  case atStart => exact ⟨0, by omega, rfl, Lib.hid fun j _ hj => by omega, Lib.hid (Box.fresh _ _ _), (Below.refl _ _).alloc (Nat.le_refl _) _⟩
  case round =>
    obtain ⟨k, hk, rfl, hno, hbx, hbr⟩ := hrel
    obtain ⟨c0, f0⟩ := hbx.out.one
    by_cases hlt : k < n
    · have hkr : k < r.length := by omega
      have hlti : (k : Int) < (n : Int) := by omega
      have hkri : (k : Int) < (r.length : Int) := by omega
      obtain ⟨b, o, c, hv, hbC, hcs⟩ := H.out.cells (by omega)
      obtain ⟨rfl, rfl⟩ : a = some ⟨b, o, none⟩ ∧ cap = c := by injection hv with e1 e2 e3; exact ⟨e1, e3⟩
      obtain ⟨x, d0, d1, hx⟩ := hcs k hkr
      clear hcs hv hx d1
      rw [← hbr.cell (p := ⟨b, _, none⟩) hbC] at d0
      by_cases he : r[k].1 = id
      · have Hy := Lib.hid (hasId_yes hkr hlt he)
        rw [he] at d0
        clear he
        go_wp2_with fail
        go_ret
        exact ⟨by rw [← HR.out, Hy.out]; rfl, hbr⟩
      · have hb := neB2 he
        have Hn : Hid (∀ j (hj : j < r.length), j < k + 1 → r[j].1 ≠ id) := Lib.hid fun j hj hjk => by
          by_cases e : j = k
          · subst e; exact he
          · exact hno.out j hj (by omega)
        generalize r[k].1 = y at d0 hb
        clear he hno
        go_wp2_with fail
        go_roundw
        case rel => exact ⟨k + 1, by omega, by go_num, Hn, hbx, hbr⟩
        case measure => simp [intOf]; omega
    · have hge : (n : Int) ≤ (k : Int) := by omega
      have hend : decide (k < n) = false := decide_eq_false hlt
      have Hf := Lib.hid (hasId_no (n := n) fun j hj hjn => hno.out j hj (by omega))
      go_wp2_with fail
      go_ret
      exact ⟨by rw [← HR.out, Hf.out]; rfl, hbr⟩
set_option maxHeartbeats 1000000 in
theorem specHasNumber_any (v : Value) (l : List RF) (x : Int) (w : World) (h : FieldsAt w (· < w.heap.size) v l) (hl : l.length ≤ 1048576) :
    Calls Tryz.prog 155 #[v, .int .i64 x] w fun e w' => e = .returned (.bool (hasNum l x)) ∧ Below w.heap.size w w' := by
  obtain ⟨R, hR⟩ : ∃ R, hasNum l x = R := ⟨_, rfl⟩
  rw [hR]
  have HR := Lib.hid hR
  clear hR
  obtain ⟨a, cap, rfl⟩ := h.len
  have H := Lib.hid h
  clear h
  go_enter Tryz.func155, Tryz.ntmps155
  go_wp2_with fail
  go_loopw [5] (fun i wr => ∃ k : Nat, k ≤ l.length ∧ i = .int .i64 k ∧ Hid (∀ j (hj : j < l.length), j < k → l[j].1 ≠ x) ∧ Below w.heap.size w wr) (fun i _ => l.length - (intOf i).toNat)
  case atStart => exact ⟨0, by omega, rfl, Lib.hid fun j _ hj => by omega, Below.refl _ _⟩
  case round =>
    obtain ⟨k, hk, rfl, hno, hbr⟩ := hrel
    by_cases hlt : k < l.length
    · have hlti : (k : Int) < (l.length : Int) := by omega
      obtain ⟨b, o, c, hv, hbC, hcs⟩ := H.out.cells (by omega)
      obtain ⟨rfl, rfl⟩ : a = some ⟨b, o, none⟩ ∧ cap = c := by injection hv with e1 e2 e3; exact ⟨e1, e3⟩
      obtain ⟨d0, _, _, _, _⟩ := hcs k hlt
      clear hcs hv
      rw [← hbr.cell (p := ⟨b, _, none⟩) hbC] at d0
      by_cases he : l[k].1 = x
      · have Hy := Lib.hid (hasNum_yes hlt he)
        rw [he] at d0
        clear he
        go_wp2_with fail
        go_ret
        exact ⟨by rw [← HR.out, Hy.out]; rfl, hbr⟩
      · have hb := neB2 he
        have Hn : Hid (∀ j (hj : j < l.length), j < k + 1 → l[j].1 ≠ x) := Lib.hid fun j hj hjk => by
          by_cases e : j = k
          · subst e; exact he
          · exact hno.out j hj (by omega)
        generalize l[k].1 = y at d0 hb
        clear he hno
        go_wp2_with fail
        go_roundw
        case rel => exact ⟨k + 1, by omega, by go_num, Hn, hbr⟩
        case measure => simp [intOf]; omega
    · have hge : (l.length : Int) ≤ (k : Int) := by omega
      have hend : decide (k < l.length) = false := decide_eq_false hlt
      have Hf := Lib.hid (hasNum_no fun j hj => hno.out j hj (by omega))
      go_wp2_with fail
      go_ret
      exact ⟨by rw [← HR.out, Hf.out]; rfl, hbr⟩
end Go.Proofs.YtpkofbdfnbpfpaaGreat.Num
