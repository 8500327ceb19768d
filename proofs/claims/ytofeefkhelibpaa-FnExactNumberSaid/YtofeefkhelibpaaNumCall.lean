/-
  The walks of impl.Number, impl.LongOf (with their deferred functions), spec.Long, spec.LongOf, spec.Number: each returns the value of a shortest decimal numeral within its limit and true, and at every other string 0 and false; only new memory is written.
-/
import Derived.Test.YtofeefkhelibpaaNumWalk
import Derived.Defers
namespace Go.Proofs.Ytofeefkhelibpaa.Num
open Go.RowKit Go.Proofs

theorem nrec_panicking (p : Addr) (x : Bool) (u : TypeId) (pv : Value) (older : List PanicEntry) (w : World) (hc : w.cell? p = some (.bool x)) (hz : w.frozen? p = false) :
    CallsD Try.prog 27 #[.pointer (some p)] (.panicking ({ v := .iface u pv, recovered := false } :: older)) w fun e u' w' =>
      e = .returned (.tuple #[]) ∧ u' = .panicking ({ v := .iface u pv, recovered := true } :: older) ∧ w' = w.setCell p (.bool false) := by
  refine callsD_of_wpS Try.func27 rfl fun c₀ cs hu => ?_
  apply wpS_region
  simp [wpOpsS, go_sem, recoverD, hu, Try.ntmps27, hc, hz, bodyPostS, results, Try.results27]

theorem nrec_idle (p : Addr) (x : Bool) (w : World) (hc : w.cell? p = some (.bool x)) (hz : w.frozen? p = false) :
    CallsD Try.prog 27 #[.pointer (some p)] .returning w fun e u' w' => e = .returned (.tuple #[]) ∧ u' = .returning ∧ w' = w.setCell p (.bool true) := by
  refine callsD_of_wpS Try.func27 rfl fun c₀ cs hu => ?_
  apply wpS_region
  simp [wpOpsS, go_sem, recoverD, hu, Try.ntmps27, hc, hz, bodyPostS, results, Try.results27]
  cases c₀
  simp_all

theorem lrec_panicking (p : Addr) (x : Bool) (u : TypeId) (pv : Value) (older : List PanicEntry) (w : World) (hc : w.cell? p = some (.bool x)) (hz : w.frozen? p = false) :
    CallsD Try.prog 31 #[.pointer (some p)] (.panicking ({ v := .iface u pv, recovered := false } :: older)) w fun e u' w' =>
      e = .returned (.tuple #[]) ∧ u' = .panicking ({ v := .iface u pv, recovered := true } :: older) ∧ w' = w.setCell p (.bool false) := by
  refine callsD_of_wpS Try.func31 rfl fun c₀ cs hu => ?_
  apply wpS_region
  simp [wpOpsS, go_sem, recoverD, hu, Try.ntmps31, hc, hz, bodyPostS, results, Try.results31]

theorem lrec_idle (p : Addr) (x : Bool) (w : World) (hc : w.cell? p = some (.bool x)) (hz : w.frozen? p = false) :
    CallsD Try.prog 31 #[.pointer (some p)] .returning w fun e u' w' => e = .returned (.tuple #[]) ∧ u' = .returning ∧ w' = w.setCell p (.bool true) := by
  refine callsD_of_wpS Try.func31 rfl fun c₀ cs hu => ?_
  apply wpS_region
  simp [wpOpsS, go_sem, recoverD, hu, Try.ntmps31, hc, hz, bodyPostS, results, Try.results31]
  cases c₀
  simp_all

theorem number_any (s : ByteArray) (w : World) (hs : s.size ≤ 9223372036854775807) :
    Calls Try.prog 15 #[.string s] w fun e w' => e = .returned (.tuple #[.int .i64 (parse 999999999 s.data.toList).1, .bool (parse 999999999 s.data.toList).2]) ∧ Below w.heap.size w w' := by
  have hmf : ∀ (fn : Fn) (first cap : Array Value) (w : World), (Instr.makeFunc fn first cap).run Try.prog w = .ok (.func fn first cap) w := fun _ _ _ _ => rfl
  go_enter_defers Try.func15, Try.ntmps15
  go_wp2_with fail
  refine (numeral_any s 999999999 _ hs (by omega) (by omega)).mono ?_
  rintro e w' ⟨⟨hok, rfl⟩ | ⟨hok, t, v, rfl⟩, rfl⟩
  · have hv : val s.data.toList ≤ 999999999 := by simp only [numOk, Bool.and_eq_true, decide_eq_true_eq] at hok; exact hok.2
    have Hp : Hid (parse 999999999 s.data.toList = (val s.data.toList, true)) := Lib.hid (by unfold parse; rw [if_pos hok])
    clear hok
    go_wp2_with fail
    refine leaves_cons (f := 27) (args := #[.pointer (some ⟨w.heap.size, 0, none⟩)]) (by simp) (by simp [go_sem]) ?_
    refine (nrec_idle ⟨w.heap.size, 0, none⟩ true _ ?_ ?_).mono ?_
    · simp [go_sem]
    · simp [go_sem]
    rintro e u' w'' ⟨rfl, rfl, rfl⟩
    simp [Leaves, settle, results, Try.results15, go_sem, Hp.out]
    exact (Below.refl _ _).alloc (Nat.le_refl _) _
  · have Hp : Hid (parse 999999999 s.data.toList = (0, false)) := Lib.hid (by unfold parse; rw [if_neg (by rw [hok]; simp)])
    go_wp2_with fail
    refine leaves_cons (f := 27) (args := #[.pointer (some ⟨w.heap.size, 0, none⟩)]) (by simp) (by simp [go_sem]) ?_
    refine (nrec_panicking ⟨w.heap.size, 0, none⟩ false t v [] _ ?_ ?_).mono ?_
    · simp [go_sem]
    · simp [go_sem]
    rintro e u' w'' ⟨rfl, rfl, rfl⟩
    simp [Leaves, settle, results, Try.results15, go_sem, Hp.out]
    exact (Below.refl _ _).alloc (Nat.le_refl _) _

theorem longOf_any (s : ByteArray) (w : World) (hs : s.size ≤ 9223372036854775807) :
    Calls Try.prog 18 #[.string s] w fun e w' => e = .returned (.tuple #[.int .u64 (parse 18446744073709551615 s.data.toList).1, .bool (parse 18446744073709551615 s.data.toList).2]) ∧ Below w.heap.size w w' := by
  have hmf : ∀ (fn : Fn) (first cap : Array Value) (w : World), (Instr.makeFunc fn first cap).run Try.prog w = .ok (.func fn first cap) w := fun _ _ _ _ => rfl
  go_enter_defers Try.func18, Try.ntmps18
  go_wp2_with fail
  refine (numeral_any s 18446744073709551615 _ hs (by omega) (by omega)).mono ?_
  rintro e w' ⟨⟨hok, rfl⟩ | ⟨hok, t, v, rfl⟩, rfl⟩
  · have hv : val s.data.toList ≤ 18446744073709551615 := by simp only [numOk, Bool.and_eq_true, decide_eq_true_eq] at hok; exact hok.2
    have Hp : Hid (parse 18446744073709551615 s.data.toList = (val s.data.toList, true)) := Lib.hid (by unfold parse; rw [if_pos hok])
    clear hok
    go_wp2_with fail
    refine leaves_cons (f := 31) (args := #[.pointer (some ⟨w.heap.size, 0, none⟩)]) (by simp) (by simp [go_sem]) ?_
    refine (lrec_idle ⟨w.heap.size, 0, none⟩ true _ ?_ ?_).mono ?_
    · simp [go_sem]
    · simp [go_sem]
    rintro e u' w'' ⟨rfl, rfl, rfl⟩
    simp [Leaves, settle, results, Try.results18, go_sem, Hp.out]
    exact (Below.refl _ _).alloc (Nat.le_refl _) _
  · have Hp : Hid (parse 18446744073709551615 s.data.toList = (0, false)) := Lib.hid (by unfold parse; rw [if_neg (by rw [hok]; simp)])
    go_wp2_with fail
    refine leaves_cons (f := 31) (args := #[.pointer (some ⟨w.heap.size, 0, none⟩)]) (by simp) (by simp [go_sem]) ?_
    refine (lrec_panicking ⟨w.heap.size, 0, none⟩ false t v [] _ ?_ ?_).mono ?_
    · simp [go_sem]
    · simp [go_sem]
    rintro e u' w'' ⟨rfl, rfl, rfl⟩
    simp [Leaves, settle, results, Try.results18, go_sem, Hp.out]
    exact (Below.refl _ _).alloc (Nat.le_refl _) _

end Go.Proofs.Ytofeefkhelibpaa.Num
