/-
  The walk of impl.Unhex with its deferred function: the bytes and true, or the empty string and false; only new memory is written.
-/
import Derived.Test.YtofeefkhelibpaaUnhex
import Derived.Defers
namespace Go.Proofs.Ytofeefkhelibpaa.Num
open Go.RowKit Go.Proofs

theorem urec_panicking (p : Addr) (x : Bool) (u : TypeId) (pv : Value) (older : List PanicEntry) (w : World) (hc : w.cell? p = some (.bool x)) (hz : w.frozen? p = false) :
    CallsD Try.prog 22 #[.pointer (some p)] (.panicking ({ v := .iface u pv, recovered := false } :: older)) w fun e u' w' =>
      e = .returned (.tuple #[]) ∧ u' = .panicking ({ v := .iface u pv, recovered := true } :: older) ∧ w' = w.setCell p (.bool false) := by
  refine callsD_of_wpS Try.func22 rfl fun c₀ cs hu => ?_
  apply wpS_region
  simp [wpOpsS, go_sem, recoverD, hu, Try.ntmps22, hc, hz, bodyPostS, results, Try.results22]
theorem urec_idle (p : Addr) (x : Bool) (w : World) (hc : w.cell? p = some (.bool x)) (hz : w.frozen? p = false) :
    CallsD Try.prog 22 #[.pointer (some p)] .returning w fun e u' w' => e = .returned (.tuple #[]) ∧ u' = .returning ∧ w' = w.setCell p (.bool true) := by
  refine callsD_of_wpS Try.func22 rfl fun c₀ cs hu => ?_
  apply wpS_region
  simp [wpOpsS, go_sem, recoverD, hu, Try.ntmps22, hc, hz, bodyPostS, results, Try.results22]
  cases c₀
  simp_all

theorem implUnhex_any (s : ByteArray) (w : World) (hs : s.size ≤ 140737488355327) :
    Calls Try.prog 11 #[.string s] w fun e w' => e = .returned (.tuple #[.string ⟨(unhexL s.data.toList).1.toArray⟩, .bool (unhexL s.data.toList).2]) ∧ Below w.heap.size w w' := by
  have hmf : ∀ (fn : Fn) (first cap : Array Value) (w : World), (Instr.makeFunc fn first cap).run Try.prog w = .ok (.func fn first cap) w := fun _ _ _ _ => rfl
  go_enter_defers Try.func11, Try.ntmps11
  go_wp2_with fail
  refine (bytesOfHex_any s _ hs).mono ?_
  rintro e w1 ⟨⟨hok, rfl⟩ | ⟨hok, t, v, rfl⟩, hb⟩
  · obtain ⟨hc, hf⟩ := bcell hb
    have hz := hb.size
    have h1 : w1.cell? ⟨w.heap.size, 0, none⟩ = some (.bool false) := by rw [hc _ _ (by simp), World.cell?_alloc_mark]; rfl
    have h2 : w1.frozen? ⟨w.heap.size, 0, none⟩ = false := by rw [hf _ _ (by simp)]; exact World.frozen?_alloc_at _ _ _ _ (by simp)
    have Hp : Hid ((unhexL s.data.toList).2 = true) := Lib.hid hok
    clear hok hc hf
    go_wp2_with fail
    refine leaves_cons (f := 22) (args := #[.pointer (some ⟨w.heap.size, 0, none⟩)]) (by simp) (by simp [go_sem]) ?_
    refine (urec_idle ⟨w.heap.size, 0, none⟩ true _ (World.cell?_setCell_same _ _ _ (by rw [h1])) (by rw [World.frozen?_setCell]; exact h2)).mono ?_
    rintro e u' w'' ⟨rfl, rfl, rfl⟩
    have h3 : (w1.setCell ⟨w.heap.size, 0, none⟩ (.bool true)).cell? ⟨w.heap.size, 0, none⟩ = some (.bool true) := World.cell?_setCell_same _ _ _ (by rw [h1])
    have h4 : ((w1.setCell ⟨w.heap.size, 0, none⟩ (.bool true)).setCell ⟨w.heap.size, 0, none⟩ (.bool true)).cell? ⟨w.heap.size, 0, none⟩ = some (.bool true) := World.cell?_setCell_same _ _ _ (by rw [h3])
    simp [Leaves, settle, results, Try.results11, go_sem, Hp.out, h4]
    exact ((((Below.refl _ _).alloc (Nat.le_refl _) _).trans (hb.mono (by simp))).setCell (Nat.le_refl _) _).setCell (Nat.le_refl _) _
  · obtain ⟨hc, hf⟩ := bcell hb
    have h1 : w1.cell? ⟨w.heap.size, 0, none⟩ = some (.bool false) := by rw [hc _ _ (by simp), World.cell?_alloc_mark]; rfl
    have h2 : w1.frozen? ⟨w.heap.size, 0, none⟩ = false := by rw [hf _ _ (by simp)]; exact World.frozen?_alloc_at _ _ _ _ (by simp)
    have Hp := Lib.hid hok
    clear hok hc hf
    go_wp2_with fail
    refine leaves_cons (f := 22) (args := #[.pointer (some ⟨w.heap.size, 0, none⟩)]) (by simp) (by simp [go_sem]) ?_
    refine (urec_panicking ⟨w.heap.size, 0, none⟩ false t v [] _ h1 h2).mono ?_
    rintro e u' w'' ⟨rfl, rfl, rfl⟩
    have h3 : (w1.setCell ⟨w.heap.size, 0, none⟩ (.bool false)).cell? ⟨w.heap.size, 0, none⟩ = some (.bool false) := World.cell?_setCell_same _ _ _ (by rw [h1])
    simp [Leaves, settle, results, Try.results11, go_sem, Hp.out, h3]
    exact (((Below.refl _ _).alloc (Nat.le_refl _) _).trans (hb.mono (by simp))).setCell (Nat.le_refl _) _
end Go.Proofs.Ytofeefkhelibpaa.Num
