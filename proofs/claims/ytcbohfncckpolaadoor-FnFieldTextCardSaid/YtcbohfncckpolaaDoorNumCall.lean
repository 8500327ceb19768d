/-
  The walks of impl.Number, impl.LongOf (with their deferred functions), spec.Long, spec.LongOf, spec.Number: each returns the value of a shortest decimal numeral within its limit and true, and at every other string 0 and false; only new memory is written.
-/
import Derived.Test.YtcbohfncckpolaaDoorNumWalk
import Derived.Defers
namespace Go.Proofs.YtcbohfncckpolaaDoor.Num
open Go.RowKit Go.Proofs

theorem nrec_panicking (p : Addr) (x : Bool) (u : TypeId) (pv : Value) (older : List PanicEntry) (w : World) (hc : w.cell? p = some (.bool x)) (hz : w.frozen? p = false) :
    CallsD Tryd.prog 74 #[.pointer (some p)] (.panicking ({ v := .iface u pv, recovered := false } :: older)) w fun e u' w' =>
      e = .returned (.tuple #[]) ∧ u' = .panicking ({ v := .iface u pv, recovered := true } :: older) ∧ w' = w.setCell p (.bool false) := by
  refine callsD_of_wpS Tryd.func74 rfl fun c₀ cs hu => ?_
  apply wpS_region
  simp [wpOpsS, go_sem, recoverD, hu, Tryd.ntmps74, hc, hz, bodyPostS, results, Tryd.results74]
theorem nrec_idle (p : Addr) (x : Bool) (w : World) (hc : w.cell? p = some (.bool x)) (hz : w.frozen? p = false) :
    CallsD Tryd.prog 74 #[.pointer (some p)] .returning w fun e u' w' => e = .returned (.tuple #[]) ∧ u' = .returning ∧ w' = w.setCell p (.bool true) := by
  refine callsD_of_wpS Tryd.func74 rfl fun c₀ cs hu => ?_
  apply wpS_region
  simp [wpOpsS, go_sem, recoverD, hu, Tryd.ntmps74, hc, hz, bodyPostS, results, Tryd.results74]
  cases c₀
  simp_all
theorem number_any (s : ByteArray) (w : World) (hs : s.size ≤ 9223372036854775807) :
    Calls Tryd.prog 54 #[.string s] w fun e w' => e = .returned (.tuple #[.int .i64 (parse 999999999 s.data.toList).1, .bool (parse 999999999 s.data.toList).2]) ∧ Below w.heap.size w w' := by
  have hmf : ∀ (fn : Fn) (first cap : Array Value) (w : World), (Instr.makeFunc fn first cap).run Tryd.prog w = .ok (.func fn first cap) w := fun _ _ _ _ => rfl
  go_enter_defers Tryd.func54, Tryd.ntmps54
  go_wp2_with fail
  refine (numeral_any s 999999999 _ hs (by omega) (by omega)).mono ?_
  rintro e w' ⟨⟨hok, rfl⟩ | ⟨hok, t, v, rfl⟩, rfl⟩
  · have hv : val s.data.toList ≤ 999999999 := by simp only [numOk, Bool.and_eq_true, decide_eq_true_eq] at hok; exact hok.2
    have Hp : Hid (parse 999999999 s.data.toList = (val s.data.toList, true)) := Lib.hid (by unfold parse; rw [if_pos hok])
    clear hok
    go_wp2_with fail
    refine leaves_cons (f := 74) (args := #[.pointer (some ⟨w.heap.size, 0, none⟩)]) (by simp) (by simp [go_sem]) ?_
    refine (nrec_idle ⟨w.heap.size, 0, none⟩ true _ ?_ ?_).mono ?_
    · simp [go_sem]
    · simp [go_sem]
    rintro e u' w'' ⟨rfl, rfl, rfl⟩
    simp [Leaves, settle, results, Tryd.results54, go_sem, Hp.out]
    exact (Below.refl _ _).alloc (Nat.le_refl _) _
  · have Hp : Hid (parse 999999999 s.data.toList = (0, false)) := Lib.hid (by unfold parse; rw [if_neg (by rw [hok]; simp)])
    go_wp2_with fail
    refine leaves_cons (f := 74) (args := #[.pointer (some ⟨w.heap.size, 0, none⟩)]) (by simp) (by simp [go_sem]) ?_
    refine (nrec_panicking ⟨w.heap.size, 0, none⟩ false t v [] _ ?_ ?_).mono ?_
    · simp [go_sem]
    · simp [go_sem]
    rintro e u' w'' ⟨rfl, rfl, rfl⟩
    simp [Leaves, settle, results, Tryd.results54, go_sem, Hp.out]
    exact (Below.refl _ _).alloc (Nat.le_refl _) _
end Go.Proofs.YtcbohfncckpolaaDoor.Num
