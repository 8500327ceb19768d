/-
  The walks of the program's eventKindOf, inRange and event: an event held in a struct of its kind behind an interface, in range, and made again from it; only new memory is written.
-/
import Derived.Test.YtbjndnpdmohjiaaDoorEvOk
import Derived.Test.YtbjndnpdmohjiaaDoorTag
import Derived.Deep.RegionWith
namespace Go.Proofs.YtbjndnpdmohjiaaDoor.Num
open Go.RowKit Go.Proofs
set_option linter.unusedVariables false
set_option linter.unusedSimpArgs false
attribute [local go_sem] Region.wanted yielded

theorem kindOf1 (f b l : Int) (t : ByteArray) (c p : Int) (w : World) : Calls Tryd.prog 20 #[.agg #[.int .i64 1, .int .i64 f, .int .u64 b, .int .i64 l, .string t, .int .i64 c, .int .i64 p]] w fun x w' => x = .returned (.iface 54 (.agg #[.int .i64 l])) ∧ Below w.heap.size w w' := by
  go_enter Tryd.func20, Tryd.ntmps20
  go_wp2_with fail
  go_ret
  refine ⟨rfl, ?_⟩
  repeat (first | with_reducible exact Below.refl _ _ | refine Below.setCell ?_ (by simp) _ | refine Below.alloc ?_ (by first | omega | (simp <;> omega)) _)
theorem event1 (l : Int) (w : World) : Calls Tryd.prog 49 #[.agg #[.int .i64 l]] w fun x w' => x = .returned (.agg #[.int .i64 1, .int .i64 0, .int .u64 0, .int .i64 l, .string ⟨#[]⟩, .int .i64 0, .int .i64 0]) ∧ Below w.heap.size w w' := by
  go_enter Tryd.func49, Tryd.ntmps49
  go_wp2_with fail
  refine bodyPost_ret (v := .agg #[.int .i64 1, .int .i64 0, .int .u64 0, .int .i64 l, .string ⟨#[]⟩, .int .i64 0, .int .i64 0]) (by simp [results, Tryd.results49, go_sem]) rfl ⟨rfl, ?_⟩
  repeat (first | with_reducible exact Below.refl _ _ | refine Below.setCell ?_ (by simp) _ | refine Below.alloc ?_ (by first | omega | (simp <;> omega)) _)
theorem inRange1 (l : Int) (Q : Bool) (h : decide (0 ≤ l) = Q) (w : World) : Calls Tryd.prog 21 #[.iface 54 (.agg #[.int .i64 l])] w fun x w' => x = .returned (.bool Q) ∧ Below w.heap.size w w' := by
  have ta1 : ∀ w : World, (Instr.typeAssert (.iface 54 (.agg #[.int .i64 l])) 37 54 true).run Tryd.prog w = .ok (.tuple #[.agg #[.int .i64 l], .bool true]) w := fun _ => by kernel_rfl
  subst h
  go_enter Tryd.func21, Tryd.ntmps21
  go_wp2_with fail
  go_ret
  refine ⟨rfl, ?_⟩
  repeat (first | with_reducible exact Below.refl _ _ | refine Below.setCell ?_ (by simp) _ | refine Below.alloc ?_ (by first | omega | (simp <;> omega)) _)
theorem okAt1 (f b l : Int) (t : ByteArray) (c p : Int) : evOkB ⟨1, f, b, l, t, c, p⟩ = (decide (0 ≤ l) && decide ((⟨1, 0, 0, l, ⟨#[]⟩, 0, 0⟩ : Ev) = ⟨1, f, b, l, t, c, p⟩)) := by
  rw [Bool.eq_iff_iff]
  unfold evOkB
  simp only [decide_eq_true_eq, Bool.and_eq_true]
  unfold EvOk
  rw [show wantE ⟨1, f, b, l, t, c, p⟩ = ⟨1, 0, 0, l, ⟨#[]⟩, 0, 0⟩ from rfl]
  constructor
  · rintro ⟨he, hk, hl, hp, hf, ht, hc⟩
    exact ⟨hl, he.symm⟩
  · rintro ⟨hr, he⟩
    have he := he.symm
    exact ⟨he, ⟨by simp, by simp⟩, hr, (by have := congrArg Ev.pos he; simp only at this ⊢; omega), fun h => by simp only at h; omega, fun h => by simp only at h; omega, fun h => by simp only at h; omega⟩
theorem kindOf2 (f b l : Int) (t : ByteArray) (c p : Int) (w : World) : Calls Tryd.prog 20 #[.agg #[.int .i64 2, .int .i64 f, .int .u64 b, .int .i64 l, .string t, .int .i64 c, .int .i64 p]] w fun x w' => x = .returned (.iface 56 (.agg #[.int .i64 f, .int .u64 b])) ∧ Below w.heap.size w w' := by
  go_enter Tryd.func20, Tryd.ntmps20
  go_wp2_with fail
  go_ret
  refine ⟨rfl, ?_⟩
  repeat (first | with_reducible exact Below.refl _ _ | refine Below.setCell ?_ (by simp) _ | refine Below.alloc ?_ (by first | omega | (simp <;> omega)) _)
theorem event2 (f : Int) (b : Int) (w : World) : Calls Tryd.prog 50 #[.agg #[.int .i64 f, .int .u64 b]] w fun x w' => x = .returned (.agg #[.int .i64 2, .int .i64 f, .int .u64 b, .int .i64 0, .string ⟨#[]⟩, .int .i64 0, .int .i64 0]) ∧ Below w.heap.size w w' := by
  go_enter Tryd.func50, Tryd.ntmps50
  go_wp2_with fail
  refine bodyPost_ret (v := .agg #[.int .i64 2, .int .i64 f, .int .u64 b, .int .i64 0, .string ⟨#[]⟩, .int .i64 0, .int .i64 0]) (by simp [results, Tryd.results50, go_sem]) rfl ⟨rfl, ?_⟩
  repeat (first | with_reducible exact Below.refl _ _ | refine Below.setCell ?_ (by simp) _ | refine Below.alloc ?_ (by first | omega | (simp <;> omega)) _)
theorem inRange2 (f : Int) (b : Int) (Q : Bool) (h : decide (1 ≤ f ∧ f ≤ 536870911) = Q) (w : World) : Calls Tryd.prog 21 #[.iface 56 (.agg #[.int .i64 f, .int .u64 b])] w fun x w' => x = .returned (.bool Q) ∧ Below w.heap.size w w' := by
  have ta1 : ∀ w : World, (Instr.typeAssert (.iface 56 (.agg #[.int .i64 f, .int .u64 b])) 37 54 true).run Tryd.prog w = .ok (.tuple #[.agg #[.int .i64 0], .bool false]) w := fun _ => by kernel_rfl
  have ta2 : ∀ w : World, (Instr.typeAssert (.iface 56 (.agg #[.int .i64 f, .int .u64 b])) 37 56 true).run Tryd.prog w = .ok (.tuple #[.agg #[.int .i64 f, .int .u64 b], .bool true]) w := fun _ => by kernel_rfl
  by_cases hf : Fits f
  · obtain rfl : Q = true := by rw [← h]; exact decide_eq_true hf
    clear h
    go_enter Tryd.func21, Tryd.ntmps21
    go_wp2_with fail
    refine (implFits_yes f _ hf).mono ?_
    rintro _ _ ⟨rfl, rfl⟩
    go_wp2_with fail
    go_ret
    refine ⟨rfl, ?_⟩
    repeat (first | with_reducible exact Below.refl _ _ | refine Below.setCell ?_ (by simp) _ | refine Below.alloc ?_ (by first | omega | (simp <;> omega)) _)
  · obtain rfl : Q = false := by rw [← h]; exact decide_eq_false hf
    clear h
    go_enter Tryd.func21, Tryd.ntmps21
    go_wp2_with fail
    refine (implFits_no f _ hf).mono ?_
    rintro _ _ ⟨rfl, rfl⟩
    go_wp2_with fail
    go_ret
    refine ⟨rfl, ?_⟩
    repeat (first | with_reducible exact Below.refl _ _ | refine Below.setCell ?_ (by simp) _ | refine Below.alloc ?_ (by first | omega | (simp <;> omega)) _)
theorem okAt2 (f b l : Int) (t : ByteArray) (c p : Int) : evOkB ⟨2, f, b, l, t, c, p⟩ = (decide (1 ≤ f ∧ f ≤ 536870911) && decide ((⟨2, f, b, 0, ⟨#[]⟩, 0, 0⟩ : Ev) = ⟨2, f, b, l, t, c, p⟩)) := by
  rw [Bool.eq_iff_iff]
  unfold evOkB
  simp only [decide_eq_true_eq, Bool.and_eq_true]
  unfold EvOk
  rw [show wantE ⟨2, f, b, l, t, c, p⟩ = ⟨2, f, b, 0, ⟨#[]⟩, 0, 0⟩ from rfl]
  constructor
  · rintro ⟨he, hk, hl, hp, hf, ht, hc⟩
    exact ⟨hf (.inl rfl), he.symm⟩
  · rintro ⟨hr, he⟩
    have he := he.symm
    exact ⟨he, ⟨by simp, by simp⟩, (by have := congrArg Ev.len he; simp only at this ⊢; omega), (by have := congrArg Ev.pos he; simp only at this ⊢; omega), fun _ => hr, fun h => by simp only at h; omega, fun h => by simp only at h; omega⟩
theorem kindOf3 (f b l : Int) (t : ByteArray) (c p : Int) (w : World) : Calls Tryd.prog 20 #[.agg #[.int .i64 3, .int .i64 f, .int .u64 b, .int .i64 l, .string t, .int .i64 c, .int .i64 p]] w fun x w' => x = .returned (.iface 58 (.agg #[.int .i64 f, .int .i64 l])) ∧ Below w.heap.size w w' := by
  go_enter Tryd.func20, Tryd.ntmps20
  go_wp2_with fail
  go_ret
  refine ⟨rfl, ?_⟩
  repeat (first | with_reducible exact Below.refl _ _ | refine Below.setCell ?_ (by simp) _ | refine Below.alloc ?_ (by first | omega | (simp <;> omega)) _)
theorem event3 (f : Int) (l : Int) (w : World) : Calls Tryd.prog 51 #[.agg #[.int .i64 f, .int .i64 l]] w fun x w' => x = .returned (.agg #[.int .i64 3, .int .i64 f, .int .u64 0, .int .i64 l, .string ⟨#[]⟩, .int .i64 0, .int .i64 0]) ∧ Below w.heap.size w w' := by
  go_enter Tryd.func51, Tryd.ntmps51
  go_wp2_with fail
  refine bodyPost_ret (v := .agg #[.int .i64 3, .int .i64 f, .int .u64 0, .int .i64 l, .string ⟨#[]⟩, .int .i64 0, .int .i64 0]) (by simp [results, Tryd.results51, go_sem]) rfl ⟨rfl, ?_⟩
  repeat (first | with_reducible exact Below.refl _ _ | refine Below.setCell ?_ (by simp) _ | refine Below.alloc ?_ (by first | omega | (simp <;> omega)) _)
theorem inRange3 (f : Int) (l : Int) (Q : Bool) (h : decide ((1 ≤ f ∧ f ≤ 536870911) ∧ 0 ≤ l) = Q) (w : World) : Calls Tryd.prog 21 #[.iface 58 (.agg #[.int .i64 f, .int .i64 l])] w fun x w' => x = .returned (.bool Q) ∧ Below w.heap.size w w' := by
  have ta1 : ∀ w : World, (Instr.typeAssert (.iface 58 (.agg #[.int .i64 f, .int .i64 l])) 37 54 true).run Tryd.prog w = .ok (.tuple #[.agg #[.int .i64 0], .bool false]) w := fun _ => by kernel_rfl
  have ta2 : ∀ w : World, (Instr.typeAssert (.iface 58 (.agg #[.int .i64 f, .int .i64 l])) 37 56 true).run Tryd.prog w = .ok (.tuple #[.agg #[.int .i64 0, .int .u64 0], .bool false]) w := fun _ => by kernel_rfl
  have ta3 : ∀ w : World, (Instr.typeAssert (.iface 58 (.agg #[.int .i64 f, .int .i64 l])) 37 58 true).run Tryd.prog w = .ok (.tuple #[.agg #[.int .i64 f, .int .i64 l], .bool true]) w := fun _ => by kernel_rfl
  by_cases hf : Fits f
  · obtain rfl : Q = decide (0 ≤ l) := by rw [← h]; unfold Fits at hf; exact decide_eq_decide.2 (by simp [hf])
    clear h
    go_enter Tryd.func21, Tryd.ntmps21
    go_wp2_with fail
    refine (implFits_yes f _ hf).mono ?_
    rintro _ _ ⟨rfl, rfl⟩
    go_wp2_with fail
    go_ret
    refine ⟨rfl, ?_⟩
    repeat (first | with_reducible exact Below.refl _ _ | refine Below.setCell ?_ (by simp) _ | refine Below.alloc ?_ (by first | omega | (simp <;> omega)) _)
  · obtain rfl : Q = false := by rw [← h]; exact decide_eq_false fun g => hf g.1
    clear h
    go_enter Tryd.func21, Tryd.ntmps21
    go_wp2_with fail
    refine (implFits_no f _ hf).mono ?_
    rintro _ _ ⟨rfl, rfl⟩
    go_wp2_with fail
    go_ret
    refine ⟨rfl, ?_⟩
    repeat (first | with_reducible exact Below.refl _ _ | refine Below.setCell ?_ (by simp) _ | refine Below.alloc ?_ (by first | omega | (simp <;> omega)) _)
theorem okAt3 (f b l : Int) (t : ByteArray) (c p : Int) : evOkB ⟨3, f, b, l, t, c, p⟩ = (decide ((1 ≤ f ∧ f ≤ 536870911) ∧ 0 ≤ l) && decide ((⟨3, f, 0, l, ⟨#[]⟩, 0, 0⟩ : Ev) = ⟨3, f, b, l, t, c, p⟩)) := by
  rw [Bool.eq_iff_iff]
  unfold evOkB
  simp only [decide_eq_true_eq, Bool.and_eq_true]
  unfold EvOk
  rw [show wantE ⟨3, f, b, l, t, c, p⟩ = ⟨3, f, 0, l, ⟨#[]⟩, 0, 0⟩ from rfl]
  constructor
  · rintro ⟨he, hk, hl, hp, hf, ht, hc⟩
    exact ⟨⟨hf (.inr (.inl rfl)), hl⟩, he.symm⟩
  · rintro ⟨hr, he⟩
    have he := he.symm
    exact ⟨he, ⟨by simp, by simp⟩, hr.2, (by have := congrArg Ev.pos he; simp only at this ⊢; omega), fun _ => hr.1, fun h => by simp only at h; omega, fun h => by simp only at h; omega⟩
theorem kindOf4 (f b l : Int) (t : ByteArray) (c p : Int) (w : World) : Calls Tryd.prog 20 #[.agg #[.int .i64 4, .int .i64 f, .int .u64 b, .int .i64 l, .string t, .int .i64 c, .int .i64 p]] w fun x w' => x = .returned (.iface 60 (.agg #[.string t])) ∧ Below w.heap.size w w' := by
  go_enter Tryd.func20, Tryd.ntmps20
  go_wp2_with fail
  go_ret
  refine ⟨rfl, ?_⟩
  repeat (first | with_reducible exact Below.refl _ _ | refine Below.setCell ?_ (by simp) _ | refine Below.alloc ?_ (by first | omega | (simp <;> omega)) _)
theorem event4 (t : ByteArray) (w : World) : Calls Tryd.prog 52 #[.agg #[.string t]] w fun x w' => x = .returned (.agg #[.int .i64 4, .int .i64 0, .int .u64 0, .int .i64 0, .string t, .int .i64 0, .int .i64 0]) ∧ Below w.heap.size w w' := by
  go_enter Tryd.func52, Tryd.ntmps52
  go_wp2_with fail
  refine bodyPost_ret (v := .agg #[.int .i64 4, .int .i64 0, .int .u64 0, .int .i64 0, .string t, .int .i64 0, .int .i64 0]) (by simp [results, Tryd.results52, go_sem]) rfl ⟨rfl, ?_⟩
  repeat (first | with_reducible exact Below.refl _ _ | refine Below.setCell ?_ (by simp) _ | refine Below.alloc ?_ (by first | omega | (simp <;> omega)) _)
theorem inRange4 (t : ByteArray) (Q : Bool) (h : decide (t.toList.isEmpty = false) = Q) (w : World) : Calls Tryd.prog 21 #[.iface 60 (.agg #[.string t])] w fun x w' => x = .returned (.bool Q) ∧ Below w.heap.size w w' := by
  have ta1 : ∀ w : World, (Instr.typeAssert (.iface 60 (.agg #[.string t])) 37 54 true).run Tryd.prog w = .ok (.tuple #[.agg #[.int .i64 0], .bool false]) w := fun _ => by kernel_rfl
  have ta2 : ∀ w : World, (Instr.typeAssert (.iface 60 (.agg #[.string t])) 37 56 true).run Tryd.prog w = .ok (.tuple #[.agg #[.int .i64 0, .int .u64 0], .bool false]) w := fun _ => by kernel_rfl
  have ta3 : ∀ w : World, (Instr.typeAssert (.iface 60 (.agg #[.string t])) 37 58 true).run Tryd.prog w = .ok (.tuple #[.agg #[.int .i64 0, .int .i64 0], .bool false]) w := fun _ => by kernel_rfl
  have ta4 : ∀ w : World, (Instr.typeAssert (.iface 60 (.agg #[.string t])) 37 60 true).run Tryd.prog w = .ok (.tuple #[.agg #[.string t], .bool true]) w := fun _ => by kernel_rfl
  cases ht : t.toList.isEmpty with
  | false =>
    obtain rfl : Q = true := by rw [← h]; exact decide_eq_true ht
    clear h
    go_enter Tryd.func21, Tryd.ntmps21
    go_wp2_with fail
    go_ret
    refine ⟨rfl, ?_⟩
    repeat (first | with_reducible exact Below.refl _ _ | refine Below.setCell ?_ (by simp) _ | refine Below.alloc ?_ (by first | omega | (simp <;> omega)) _)
  | true =>
    obtain rfl : Q = false := by rw [← h]; exact decide_eq_false (by rw [ht]; simp)
    clear h
    go_enter Tryd.func21, Tryd.ntmps21
    go_wp2_with fail
    go_ret
    refine ⟨rfl, ?_⟩
    repeat (first | with_reducible exact Below.refl _ _ | refine Below.setCell ?_ (by simp) _ | refine Below.alloc ?_ (by first | omega | (simp <;> omega)) _)
theorem okAt4 (f b l : Int) (t : ByteArray) (c p : Int) : evOkB ⟨4, f, b, l, t, c, p⟩ = (decide (t.toList.isEmpty = false) && decide ((⟨4, 0, 0, 0, t, 0, 0⟩ : Ev) = ⟨4, f, b, l, t, c, p⟩)) := by
  rw [Bool.eq_iff_iff]
  unfold evOkB
  simp only [decide_eq_true_eq, Bool.and_eq_true]
  unfold EvOk
  rw [show wantE ⟨4, f, b, l, t, c, p⟩ = ⟨4, 0, 0, 0, t, 0, 0⟩ from rfl]
  constructor
  · rintro ⟨he, hk, hl, hp, hf, ht, hc⟩
    exact ⟨(by have := ht rfl; cases hh : t.toList.isEmpty with | false => rfl | true => exact absurd (ba_inj (a := t) (b := .empty) (by rw [List.isEmpty_iff.1 hh, ByteArray.toList_eq]; rfl)) this), he.symm⟩
  · rintro ⟨hr, he⟩
    have he := he.symm
    exact ⟨he, ⟨by simp, by simp⟩, (by have := congrArg Ev.len he; simp only at this ⊢; omega), (by have := congrArg Ev.pos he; simp only at this ⊢; omega), fun h => by simp only at h; omega, fun _ => by rintro rfl; rw [ByteArray.toList_eq] at hr; simp at hr, fun h => by simp only at h; omega⟩
theorem kindOf5 (f b l : Int) (t : ByteArray) (c p : Int) (w : World) : Calls Tryd.prog 20 #[.agg #[.int .i64 5, .int .i64 f, .int .u64 b, .int .i64 l, .string t, .int .i64 c, .int .i64 p]] w fun x w' => x = .returned (.iface 62 (.agg #[])) ∧ Below w.heap.size w w' := by
  go_enter Tryd.func20, Tryd.ntmps20
  go_wp2_with fail
  go_ret
  refine ⟨rfl, ?_⟩
  repeat (first | with_reducible exact Below.refl _ _ | refine Below.setCell ?_ (by simp) _ | refine Below.alloc ?_ (by first | omega | (simp <;> omega)) _)
theorem event5  (w : World) : Calls Tryd.prog 53 #[.agg #[]] w fun x w' => x = .returned (.agg #[.int .i64 5, .int .i64 0, .int .u64 0, .int .i64 0, .string ⟨#[]⟩, .int .i64 0, .int .i64 0]) ∧ Below w.heap.size w w' := by
  go_enter Tryd.func53, Tryd.ntmps53
  go_wp2_with fail
  refine bodyPost_ret (v := .agg #[.int .i64 5, .int .i64 0, .int .u64 0, .int .i64 0, .string ⟨#[]⟩, .int .i64 0, .int .i64 0]) (by simp [results, Tryd.results53, go_sem]) rfl ⟨rfl, ?_⟩
  repeat (first | with_reducible exact Below.refl _ _ | refine Below.setCell ?_ (by simp) _ | refine Below.alloc ?_ (by first | omega | (simp <;> omega)) _)
theorem inRange5  (w : World) : Calls Tryd.prog 21 #[.iface 62 (.agg #[])] w fun x w' => x = .returned (.bool true) ∧ Below w.heap.size w w' := by
  have ta1 : ∀ w : World, (Instr.typeAssert (.iface 62 (.agg #[])) 37 54 true).run Tryd.prog w = .ok (.tuple #[.agg #[.int .i64 0], .bool false]) w := fun _ => by kernel_rfl
  have ta2 : ∀ w : World, (Instr.typeAssert (.iface 62 (.agg #[])) 37 56 true).run Tryd.prog w = .ok (.tuple #[.agg #[.int .i64 0, .int .u64 0], .bool false]) w := fun _ => by kernel_rfl
  have ta3 : ∀ w : World, (Instr.typeAssert (.iface 62 (.agg #[])) 37 58 true).run Tryd.prog w = .ok (.tuple #[.agg #[.int .i64 0, .int .i64 0], .bool false]) w := fun _ => by kernel_rfl
  have ta4 : ∀ w : World, (Instr.typeAssert (.iface 62 (.agg #[])) 37 60 true).run Tryd.prog w = .ok (.tuple #[.agg #[.string ⟨#[]⟩], .bool false]) w := fun _ => by kernel_rfl
  have ta6 : ∀ w : World, (Instr.typeAssert (.iface 62 (.agg #[])) 37 63 true).run Tryd.prog w = .ok (.tuple #[.agg #[.int .i64 0, .int .i64 0], .bool false]) w := fun _ => by kernel_rfl
  have ta9 : ∀ w : World, (Instr.typeAssert (.iface 62 (.agg #[])) 37 67 true).run Tryd.prog w = .ok (.tuple #[.agg #[.int .i64 0], .bool false]) w := fun _ => by kernel_rfl
  have ta10 : ∀ w : World, (Instr.typeAssert (.iface 62 (.agg #[])) 37 69 true).run Tryd.prog w = .ok (.tuple #[.agg #[.int .i64 0, .int .i64 0], .bool false]) w := fun _ => by kernel_rfl
  have ta5 : ∀ w : World, (Instr.typeAssert (.iface 62 (.agg #[])) 37 62 true).run Tryd.prog w = .ok (.tuple #[.agg #[], .bool true]) w := fun _ => by kernel_rfl
  have ta7 : ∀ w : World, (Instr.typeAssert (.iface 62 (.agg #[])) 37 64 true).run Tryd.prog w = .ok (.tuple #[.agg #[], .bool false]) w := fun _ => by kernel_rfl
  have ta8 : ∀ w : World, (Instr.typeAssert (.iface 62 (.agg #[])) 37 65 true).run Tryd.prog w = .ok (.tuple #[.agg #[], .bool false]) w := fun _ => by kernel_rfl
  go_enter Tryd.func21, Tryd.ntmps21
  go_wp2_with fail
  go_ret
  refine ⟨rfl, ?_⟩
  repeat (first | with_reducible exact Below.refl _ _ | refine Below.setCell ?_ (by simp) _ | refine Below.alloc ?_ (by first | omega | (simp <;> omega)) _)
theorem okAt5 (f b l : Int) (t : ByteArray) (c p : Int) : evOkB ⟨5, f, b, l, t, c, p⟩ = (decide (True) && decide ((⟨5, 0, 0, 0, ⟨#[]⟩, 0, 0⟩ : Ev) = ⟨5, f, b, l, t, c, p⟩)) := by
  rw [Bool.eq_iff_iff]
  unfold evOkB
  simp only [decide_eq_true_eq, Bool.and_eq_true]
  unfold EvOk
  rw [show wantE ⟨5, f, b, l, t, c, p⟩ = ⟨5, 0, 0, 0, ⟨#[]⟩, 0, 0⟩ from rfl]
  constructor
  · rintro ⟨he, hk, hl, hp, hf, ht, hc⟩
    exact ⟨trivial, he.symm⟩
  · rintro ⟨hr, he⟩
    have he := he.symm
    exact ⟨he, ⟨by simp, by simp⟩, (by have := congrArg Ev.len he; simp only at this ⊢; omega), (by have := congrArg Ev.pos he; simp only at this ⊢; omega), fun h => by simp only at h; omega, fun h => by simp only at h; omega, fun h => by simp only at h; omega⟩
theorem kindOf6 (f b l : Int) (t : ByteArray) (c p : Int) (w : World) : Calls Tryd.prog 20 #[.agg #[.int .i64 6, .int .i64 f, .int .u64 b, .int .i64 l, .string t, .int .i64 c, .int .i64 p]] w fun x w' => x = .returned (.iface 63 (.agg #[.int .i64 f, .int .i64 l])) ∧ Below w.heap.size w w' := by
  go_enter Tryd.func20, Tryd.ntmps20
  go_wp2_with fail
  go_ret
  refine ⟨rfl, ?_⟩
  repeat (first | with_reducible exact Below.refl _ _ | refine Below.setCell ?_ (by simp) _ | refine Below.alloc ?_ (by first | omega | (simp <;> omega)) _)
theorem event6 (f : Int) (l : Int) (w : World) : Calls Tryd.prog 54 #[.agg #[.int .i64 f, .int .i64 l]] w fun x w' => x = .returned (.agg #[.int .i64 6, .int .i64 f, .int .u64 0, .int .i64 l, .string ⟨#[]⟩, .int .i64 0, .int .i64 0]) ∧ Below w.heap.size w w' := by
  go_enter Tryd.func54, Tryd.ntmps54
  go_wp2_with fail
  refine bodyPost_ret (v := .agg #[.int .i64 6, .int .i64 f, .int .u64 0, .int .i64 l, .string ⟨#[]⟩, .int .i64 0, .int .i64 0]) (by simp [results, Tryd.results54, go_sem]) rfl ⟨rfl, ?_⟩
  repeat (first | with_reducible exact Below.refl _ _ | refine Below.setCell ?_ (by simp) _ | refine Below.alloc ?_ (by first | omega | (simp <;> omega)) _)
theorem inRange6 (f : Int) (l : Int) (Q : Bool) (h : decide ((1 ≤ f ∧ f ≤ 536870911) ∧ 0 ≤ l) = Q) (w : World) : Calls Tryd.prog 21 #[.iface 63 (.agg #[.int .i64 f, .int .i64 l])] w fun x w' => x = .returned (.bool Q) ∧ Below w.heap.size w w' := by
  have ta1 : ∀ w : World, (Instr.typeAssert (.iface 63 (.agg #[.int .i64 f, .int .i64 l])) 37 54 true).run Tryd.prog w = .ok (.tuple #[.agg #[.int .i64 0], .bool false]) w := fun _ => by kernel_rfl
  have ta2 : ∀ w : World, (Instr.typeAssert (.iface 63 (.agg #[.int .i64 f, .int .i64 l])) 37 56 true).run Tryd.prog w = .ok (.tuple #[.agg #[.int .i64 0, .int .u64 0], .bool false]) w := fun _ => by kernel_rfl
  have ta3 : ∀ w : World, (Instr.typeAssert (.iface 63 (.agg #[.int .i64 f, .int .i64 l])) 37 58 true).run Tryd.prog w = .ok (.tuple #[.agg #[.int .i64 0, .int .i64 0], .bool false]) w := fun _ => by kernel_rfl
  have ta4 : ∀ w : World, (Instr.typeAssert (.iface 63 (.agg #[.int .i64 f, .int .i64 l])) 37 60 true).run Tryd.prog w = .ok (.tuple #[.agg #[.string ⟨#[]⟩], .bool false]) w := fun _ => by kernel_rfl
  have ta6 : ∀ w : World, (Instr.typeAssert (.iface 63 (.agg #[.int .i64 f, .int .i64 l])) 37 63 true).run Tryd.prog w = .ok (.tuple #[.agg #[.int .i64 f, .int .i64 l], .bool true]) w := fun _ => by kernel_rfl
  by_cases hf : Fits f
  · obtain rfl : Q = decide (0 ≤ l) := by rw [← h]; unfold Fits at hf; exact decide_eq_decide.2 (by simp [hf])
    clear h
    go_enter Tryd.func21, Tryd.ntmps21
    go_wp2_with fail
    refine (implFits_yes f _ hf).mono ?_
    rintro _ _ ⟨rfl, rfl⟩
    go_wp2_with fail
    go_ret
    refine ⟨rfl, ?_⟩
    repeat (first | with_reducible exact Below.refl _ _ | refine Below.setCell ?_ (by simp) _ | refine Below.alloc ?_ (by first | omega | (simp <;> omega)) _)
  · obtain rfl : Q = false := by rw [← h]; exact decide_eq_false fun g => hf g.1
    clear h
    go_enter Tryd.func21, Tryd.ntmps21
    go_wp2_with fail
    refine (implFits_no f _ hf).mono ?_
    rintro _ _ ⟨rfl, rfl⟩
    go_wp2_with fail
    go_ret
    refine ⟨rfl, ?_⟩
    repeat (first | with_reducible exact Below.refl _ _ | refine Below.setCell ?_ (by simp) _ | refine Below.alloc ?_ (by first | omega | (simp <;> omega)) _)
theorem okAt6 (f b l : Int) (t : ByteArray) (c p : Int) : evOkB ⟨6, f, b, l, t, c, p⟩ = (decide ((1 ≤ f ∧ f ≤ 536870911) ∧ 0 ≤ l) && decide ((⟨6, f, 0, l, ⟨#[]⟩, 0, 0⟩ : Ev) = ⟨6, f, b, l, t, c, p⟩)) := by
  rw [Bool.eq_iff_iff]
  unfold evOkB
  simp only [decide_eq_true_eq, Bool.and_eq_true]
  unfold EvOk
  rw [show wantE ⟨6, f, b, l, t, c, p⟩ = ⟨6, f, 0, l, ⟨#[]⟩, 0, 0⟩ from rfl]
  constructor
  · rintro ⟨he, hk, hl, hp, hf, ht, hc⟩
    exact ⟨⟨hf (.inr (.inr rfl)), hl⟩, he.symm⟩
  · rintro ⟨hr, he⟩
    have he := he.symm
    exact ⟨he, ⟨by simp, by simp⟩, hr.2, (by have := congrArg Ev.pos he; simp only at this ⊢; omega), fun _ => hr.1, fun h => by simp only at h; omega, fun h => by simp only at h; omega⟩
theorem kindOf7 (f b l : Int) (t : ByteArray) (c p : Int) (w : World) : Calls Tryd.prog 20 #[.agg #[.int .i64 7, .int .i64 f, .int .u64 b, .int .i64 l, .string t, .int .i64 c, .int .i64 p]] w fun x w' => x = .returned (.iface 64 (.agg #[])) ∧ Below w.heap.size w w' := by
  go_enter Tryd.func20, Tryd.ntmps20
  go_wp2_with fail
  go_ret
  refine ⟨rfl, ?_⟩
  repeat (first | with_reducible exact Below.refl _ _ | refine Below.setCell ?_ (by simp) _ | refine Below.alloc ?_ (by first | omega | (simp <;> omega)) _)
theorem event7  (w : World) : Calls Tryd.prog 55 #[.agg #[]] w fun x w' => x = .returned (.agg #[.int .i64 7, .int .i64 0, .int .u64 0, .int .i64 0, .string ⟨#[]⟩, .int .i64 0, .int .i64 0]) ∧ Below w.heap.size w w' := by
  go_enter Tryd.func55, Tryd.ntmps55
  go_wp2_with fail
  refine bodyPost_ret (v := .agg #[.int .i64 7, .int .i64 0, .int .u64 0, .int .i64 0, .string ⟨#[]⟩, .int .i64 0, .int .i64 0]) (by simp [results, Tryd.results55, go_sem]) rfl ⟨rfl, ?_⟩
  repeat (first | with_reducible exact Below.refl _ _ | refine Below.setCell ?_ (by simp) _ | refine Below.alloc ?_ (by first | omega | (simp <;> omega)) _)
theorem inRange7  (w : World) : Calls Tryd.prog 21 #[.iface 64 (.agg #[])] w fun x w' => x = .returned (.bool true) ∧ Below w.heap.size w w' := by
  have ta1 : ∀ w : World, (Instr.typeAssert (.iface 64 (.agg #[])) 37 54 true).run Tryd.prog w = .ok (.tuple #[.agg #[.int .i64 0], .bool false]) w := fun _ => by kernel_rfl
  have ta2 : ∀ w : World, (Instr.typeAssert (.iface 64 (.agg #[])) 37 56 true).run Tryd.prog w = .ok (.tuple #[.agg #[.int .i64 0, .int .u64 0], .bool false]) w := fun _ => by kernel_rfl
  have ta3 : ∀ w : World, (Instr.typeAssert (.iface 64 (.agg #[])) 37 58 true).run Tryd.prog w = .ok (.tuple #[.agg #[.int .i64 0, .int .i64 0], .bool false]) w := fun _ => by kernel_rfl
  have ta4 : ∀ w : World, (Instr.typeAssert (.iface 64 (.agg #[])) 37 60 true).run Tryd.prog w = .ok (.tuple #[.agg #[.string ⟨#[]⟩], .bool false]) w := fun _ => by kernel_rfl
  have ta6 : ∀ w : World, (Instr.typeAssert (.iface 64 (.agg #[])) 37 63 true).run Tryd.prog w = .ok (.tuple #[.agg #[.int .i64 0, .int .i64 0], .bool false]) w := fun _ => by kernel_rfl
  have ta9 : ∀ w : World, (Instr.typeAssert (.iface 64 (.agg #[])) 37 67 true).run Tryd.prog w = .ok (.tuple #[.agg #[.int .i64 0], .bool false]) w := fun _ => by kernel_rfl
  have ta10 : ∀ w : World, (Instr.typeAssert (.iface 64 (.agg #[])) 37 69 true).run Tryd.prog w = .ok (.tuple #[.agg #[.int .i64 0, .int .i64 0], .bool false]) w := fun _ => by kernel_rfl
  have ta5 : ∀ w : World, (Instr.typeAssert (.iface 64 (.agg #[])) 37 62 true).run Tryd.prog w = .ok (.tuple #[.agg #[], .bool false]) w := fun _ => by kernel_rfl
  have ta7 : ∀ w : World, (Instr.typeAssert (.iface 64 (.agg #[])) 37 64 true).run Tryd.prog w = .ok (.tuple #[.agg #[], .bool true]) w := fun _ => by kernel_rfl
  have ta8 : ∀ w : World, (Instr.typeAssert (.iface 64 (.agg #[])) 37 65 true).run Tryd.prog w = .ok (.tuple #[.agg #[], .bool false]) w := fun _ => by kernel_rfl
  go_enter Tryd.func21, Tryd.ntmps21
  go_wp2_with fail
  go_ret
  refine ⟨rfl, ?_⟩
  repeat (first | with_reducible exact Below.refl _ _ | refine Below.setCell ?_ (by simp) _ | refine Below.alloc ?_ (by first | omega | (simp <;> omega)) _)
theorem okAt7 (f b l : Int) (t : ByteArray) (c p : Int) : evOkB ⟨7, f, b, l, t, c, p⟩ = (decide (True) && decide ((⟨7, 0, 0, 0, ⟨#[]⟩, 0, 0⟩ : Ev) = ⟨7, f, b, l, t, c, p⟩)) := by
  rw [Bool.eq_iff_iff]
  unfold evOkB
  simp only [decide_eq_true_eq, Bool.and_eq_true]
  unfold EvOk
  rw [show wantE ⟨7, f, b, l, t, c, p⟩ = ⟨7, 0, 0, 0, ⟨#[]⟩, 0, 0⟩ from rfl]
  constructor
  · rintro ⟨he, hk, hl, hp, hf, ht, hc⟩
    exact ⟨trivial, he.symm⟩
  · rintro ⟨hr, he⟩
    have he := he.symm
    exact ⟨he, ⟨by simp, by simp⟩, (by have := congrArg Ev.len he; simp only at this ⊢; omega), (by have := congrArg Ev.pos he; simp only at this ⊢; omega), fun h => by simp only at h; omega, fun h => by simp only at h; omega, fun h => by simp only at h; omega⟩
theorem kindOf8 (f b l : Int) (t : ByteArray) (c p : Int) (w : World) : Calls Tryd.prog 20 #[.agg #[.int .i64 8, .int .i64 f, .int .u64 b, .int .i64 l, .string t, .int .i64 c, .int .i64 p]] w fun x w' => x = .returned (.iface 65 (.agg #[])) ∧ Below w.heap.size w w' := by
  go_enter Tryd.func20, Tryd.ntmps20
  go_wp2_with fail
  go_ret
  refine ⟨rfl, ?_⟩
  repeat (first | with_reducible exact Below.refl _ _ | refine Below.setCell ?_ (by simp) _ | refine Below.alloc ?_ (by first | omega | (simp <;> omega)) _)
theorem event8  (w : World) : Calls Tryd.prog 56 #[.agg #[]] w fun x w' => x = .returned (.agg #[.int .i64 8, .int .i64 0, .int .u64 0, .int .i64 0, .string ⟨#[]⟩, .int .i64 0, .int .i64 0]) ∧ Below w.heap.size w w' := by
  go_enter Tryd.func56, Tryd.ntmps56
  go_wp2_with fail
  refine bodyPost_ret (v := .agg #[.int .i64 8, .int .i64 0, .int .u64 0, .int .i64 0, .string ⟨#[]⟩, .int .i64 0, .int .i64 0]) (by simp [results, Tryd.results56, go_sem]) rfl ⟨rfl, ?_⟩
  repeat (first | with_reducible exact Below.refl _ _ | refine Below.setCell ?_ (by simp) _ | refine Below.alloc ?_ (by first | omega | (simp <;> omega)) _)
theorem inRange8  (w : World) : Calls Tryd.prog 21 #[.iface 65 (.agg #[])] w fun x w' => x = .returned (.bool true) ∧ Below w.heap.size w w' := by
  have ta1 : ∀ w : World, (Instr.typeAssert (.iface 65 (.agg #[])) 37 54 true).run Tryd.prog w = .ok (.tuple #[.agg #[.int .i64 0], .bool false]) w := fun _ => by kernel_rfl
  have ta2 : ∀ w : World, (Instr.typeAssert (.iface 65 (.agg #[])) 37 56 true).run Tryd.prog w = .ok (.tuple #[.agg #[.int .i64 0, .int .u64 0], .bool false]) w := fun _ => by kernel_rfl
  have ta3 : ∀ w : World, (Instr.typeAssert (.iface 65 (.agg #[])) 37 58 true).run Tryd.prog w = .ok (.tuple #[.agg #[.int .i64 0, .int .i64 0], .bool false]) w := fun _ => by kernel_rfl
  have ta4 : ∀ w : World, (Instr.typeAssert (.iface 65 (.agg #[])) 37 60 true).run Tryd.prog w = .ok (.tuple #[.agg #[.string ⟨#[]⟩], .bool false]) w := fun _ => by kernel_rfl
  have ta6 : ∀ w : World, (Instr.typeAssert (.iface 65 (.agg #[])) 37 63 true).run Tryd.prog w = .ok (.tuple #[.agg #[.int .i64 0, .int .i64 0], .bool false]) w := fun _ => by kernel_rfl
  have ta9 : ∀ w : World, (Instr.typeAssert (.iface 65 (.agg #[])) 37 67 true).run Tryd.prog w = .ok (.tuple #[.agg #[.int .i64 0], .bool false]) w := fun _ => by kernel_rfl
  have ta10 : ∀ w : World, (Instr.typeAssert (.iface 65 (.agg #[])) 37 69 true).run Tryd.prog w = .ok (.tuple #[.agg #[.int .i64 0, .int .i64 0], .bool false]) w := fun _ => by kernel_rfl
  have ta5 : ∀ w : World, (Instr.typeAssert (.iface 65 (.agg #[])) 37 62 true).run Tryd.prog w = .ok (.tuple #[.agg #[], .bool false]) w := fun _ => by kernel_rfl
  have ta7 : ∀ w : World, (Instr.typeAssert (.iface 65 (.agg #[])) 37 64 true).run Tryd.prog w = .ok (.tuple #[.agg #[], .bool false]) w := fun _ => by kernel_rfl
  have ta8 : ∀ w : World, (Instr.typeAssert (.iface 65 (.agg #[])) 37 65 true).run Tryd.prog w = .ok (.tuple #[.agg #[], .bool true]) w := fun _ => by kernel_rfl
  go_enter Tryd.func21, Tryd.ntmps21
  go_wp2_with fail
  go_ret
  refine ⟨rfl, ?_⟩
  repeat (first | with_reducible exact Below.refl _ _ | refine Below.setCell ?_ (by simp) _ | refine Below.alloc ?_ (by first | omega | (simp <;> omega)) _)
theorem okAt8 (f b l : Int) (t : ByteArray) (c p : Int) : evOkB ⟨8, f, b, l, t, c, p⟩ = (decide (True) && decide ((⟨8, 0, 0, 0, ⟨#[]⟩, 0, 0⟩ : Ev) = ⟨8, f, b, l, t, c, p⟩)) := by
  rw [Bool.eq_iff_iff]
  unfold evOkB
  simp only [decide_eq_true_eq, Bool.and_eq_true]
  unfold EvOk
  rw [show wantE ⟨8, f, b, l, t, c, p⟩ = ⟨8, 0, 0, 0, ⟨#[]⟩, 0, 0⟩ from rfl]
  constructor
  · rintro ⟨he, hk, hl, hp, hf, ht, hc⟩
    exact ⟨trivial, he.symm⟩
  · rintro ⟨hr, he⟩
    have he := he.symm
    exact ⟨he, ⟨by simp, by simp⟩, (by have := congrArg Ev.len he; simp only at this ⊢; omega), (by have := congrArg Ev.pos he; simp only at this ⊢; omega), fun h => by simp only at h; omega, fun h => by simp only at h; omega, fun h => by simp only at h; omega⟩
theorem kindOf9 (f b l : Int) (t : ByteArray) (c p : Int) (w : World) : Calls Tryd.prog 20 #[.agg #[.int .i64 9, .int .i64 f, .int .u64 b, .int .i64 l, .string t, .int .i64 c, .int .i64 p]] w fun x w' => x = .returned (.iface 67 (.agg #[.int .i64 p])) ∧ Below w.heap.size w w' := by
  go_enter Tryd.func20, Tryd.ntmps20
  go_wp2_with fail
  go_ret
  refine ⟨rfl, ?_⟩
  repeat (first | with_reducible exact Below.refl _ _ | refine Below.setCell ?_ (by simp) _ | refine Below.alloc ?_ (by first | omega | (simp <;> omega)) _)
theorem event9 (p : Int) (w : World) : Calls Tryd.prog 57 #[.agg #[.int .i64 p]] w fun x w' => x = .returned (.agg #[.int .i64 9, .int .i64 0, .int .u64 0, .int .i64 0, .string ⟨#[]⟩, .int .i64 0, .int .i64 p]) ∧ Below w.heap.size w w' := by
  go_enter Tryd.func57, Tryd.ntmps57
  go_wp2_with fail
  refine bodyPost_ret (v := .agg #[.int .i64 9, .int .i64 0, .int .u64 0, .int .i64 0, .string ⟨#[]⟩, .int .i64 0, .int .i64 p]) (by simp [results, Tryd.results57, go_sem]) rfl ⟨rfl, ?_⟩
  repeat (first | with_reducible exact Below.refl _ _ | refine Below.setCell ?_ (by simp) _ | refine Below.alloc ?_ (by first | omega | (simp <;> omega)) _)
theorem inRange9 (p : Int) (Q : Bool) (h : decide (0 ≤ p) = Q) (w : World) : Calls Tryd.prog 21 #[.iface 67 (.agg #[.int .i64 p])] w fun x w' => x = .returned (.bool Q) ∧ Below w.heap.size w w' := by
  have ta1 : ∀ w : World, (Instr.typeAssert (.iface 67 (.agg #[.int .i64 p])) 37 54 true).run Tryd.prog w = .ok (.tuple #[.agg #[.int .i64 0], .bool false]) w := fun _ => by kernel_rfl
  have ta2 : ∀ w : World, (Instr.typeAssert (.iface 67 (.agg #[.int .i64 p])) 37 56 true).run Tryd.prog w = .ok (.tuple #[.agg #[.int .i64 0, .int .u64 0], .bool false]) w := fun _ => by kernel_rfl
  have ta3 : ∀ w : World, (Instr.typeAssert (.iface 67 (.agg #[.int .i64 p])) 37 58 true).run Tryd.prog w = .ok (.tuple #[.agg #[.int .i64 0, .int .i64 0], .bool false]) w := fun _ => by kernel_rfl
  have ta4 : ∀ w : World, (Instr.typeAssert (.iface 67 (.agg #[.int .i64 p])) 37 60 true).run Tryd.prog w = .ok (.tuple #[.agg #[.string ⟨#[]⟩], .bool false]) w := fun _ => by kernel_rfl
  have ta6 : ∀ w : World, (Instr.typeAssert (.iface 67 (.agg #[.int .i64 p])) 37 63 true).run Tryd.prog w = .ok (.tuple #[.agg #[.int .i64 0, .int .i64 0], .bool false]) w := fun _ => by kernel_rfl
  have ta9 : ∀ w : World, (Instr.typeAssert (.iface 67 (.agg #[.int .i64 p])) 37 67 true).run Tryd.prog w = .ok (.tuple #[.agg #[.int .i64 p], .bool true]) w := fun _ => by kernel_rfl
  subst h
  go_enter Tryd.func21, Tryd.ntmps21
  go_wp2_with fail
  go_ret
  refine ⟨rfl, ?_⟩
  repeat (first | with_reducible exact Below.refl _ _ | refine Below.setCell ?_ (by simp) _ | refine Below.alloc ?_ (by first | omega | (simp <;> omega)) _)
theorem okAt9 (f b l : Int) (t : ByteArray) (c p : Int) : evOkB ⟨9, f, b, l, t, c, p⟩ = (decide (0 ≤ p) && decide ((⟨9, 0, 0, 0, ⟨#[]⟩, 0, p⟩ : Ev) = ⟨9, f, b, l, t, c, p⟩)) := by
  rw [Bool.eq_iff_iff]
  unfold evOkB
  simp only [decide_eq_true_eq, Bool.and_eq_true]
  unfold EvOk
  rw [show wantE ⟨9, f, b, l, t, c, p⟩ = ⟨9, 0, 0, 0, ⟨#[]⟩, 0, p⟩ from rfl]
  constructor
  · rintro ⟨he, hk, hl, hp, hf, ht, hc⟩
    exact ⟨hp, he.symm⟩
  · rintro ⟨hr, he⟩
    have he := he.symm
    exact ⟨he, ⟨by simp, by simp⟩, (by have := congrArg Ev.len he; simp only at this ⊢; omega), hr, fun h => by simp only at h; omega, fun h => by simp only at h; omega, fun h => by simp only at h; omega⟩
theorem kindOf10 (f b l : Int) (t : ByteArray) (c p : Int) (w : World) : Calls Tryd.prog 20 #[.agg #[.int .i64 10, .int .i64 f, .int .u64 b, .int .i64 l, .string t, .int .i64 c, .int .i64 p]] w fun x w' => x = .returned (.iface 69 (.agg #[.int .i64 c, .int .i64 p])) ∧ Below w.heap.size w w' := by
  go_enter Tryd.func20, Tryd.ntmps20
  go_wp2_with fail
  go_ret
  refine ⟨rfl, ?_⟩
  repeat (first | with_reducible exact Below.refl _ _ | refine Below.setCell ?_ (by simp) _ | refine Below.alloc ?_ (by first | omega | (simp <;> omega)) _)
theorem event10 (c : Int) (p : Int) (w : World) : Calls Tryd.prog 58 #[.agg #[.int .i64 c, .int .i64 p]] w fun x w' => x = .returned (.agg #[.int .i64 10, .int .i64 0, .int .u64 0, .int .i64 0, .string ⟨#[]⟩, .int .i64 c, .int .i64 p]) ∧ Below w.heap.size w w' := by
  go_enter Tryd.func58, Tryd.ntmps58
  go_wp2_with fail
  refine bodyPost_ret (v := .agg #[.int .i64 10, .int .i64 0, .int .u64 0, .int .i64 0, .string ⟨#[]⟩, .int .i64 c, .int .i64 p]) (by simp [results, Tryd.results58, go_sem]) rfl ⟨rfl, ?_⟩
  repeat (first | with_reducible exact Below.refl _ _ | refine Below.setCell ?_ (by simp) _ | refine Below.alloc ?_ (by first | omega | (simp <;> omega)) _)
theorem inRange10 (c : Int) (p : Int) (Q : Bool) (h : decide (1 ≤ c ∧ 0 ≤ p) = Q) (w : World) : Calls Tryd.prog 21 #[.iface 69 (.agg #[.int .i64 c, .int .i64 p])] w fun x w' => x = .returned (.bool Q) ∧ Below w.heap.size w w' := by
  have ta1 : ∀ w : World, (Instr.typeAssert (.iface 69 (.agg #[.int .i64 c, .int .i64 p])) 37 54 true).run Tryd.prog w = .ok (.tuple #[.agg #[.int .i64 0], .bool false]) w := fun _ => by kernel_rfl
  have ta2 : ∀ w : World, (Instr.typeAssert (.iface 69 (.agg #[.int .i64 c, .int .i64 p])) 37 56 true).run Tryd.prog w = .ok (.tuple #[.agg #[.int .i64 0, .int .u64 0], .bool false]) w := fun _ => by kernel_rfl
  have ta3 : ∀ w : World, (Instr.typeAssert (.iface 69 (.agg #[.int .i64 c, .int .i64 p])) 37 58 true).run Tryd.prog w = .ok (.tuple #[.agg #[.int .i64 0, .int .i64 0], .bool false]) w := fun _ => by kernel_rfl
  have ta4 : ∀ w : World, (Instr.typeAssert (.iface 69 (.agg #[.int .i64 c, .int .i64 p])) 37 60 true).run Tryd.prog w = .ok (.tuple #[.agg #[.string ⟨#[]⟩], .bool false]) w := fun _ => by kernel_rfl
  have ta6 : ∀ w : World, (Instr.typeAssert (.iface 69 (.agg #[.int .i64 c, .int .i64 p])) 37 63 true).run Tryd.prog w = .ok (.tuple #[.agg #[.int .i64 0, .int .i64 0], .bool false]) w := fun _ => by kernel_rfl
  have ta9 : ∀ w : World, (Instr.typeAssert (.iface 69 (.agg #[.int .i64 c, .int .i64 p])) 37 67 true).run Tryd.prog w = .ok (.tuple #[.agg #[.int .i64 0], .bool false]) w := fun _ => by kernel_rfl
  have ta10 : ∀ w : World, (Instr.typeAssert (.iface 69 (.agg #[.int .i64 c, .int .i64 p])) 37 69 true).run Tryd.prog w = .ok (.tuple #[.agg #[.int .i64 c, .int .i64 p], .bool true]) w := fun _ => by kernel_rfl
  by_cases hc : 1 ≤ c
  · obtain rfl : Q = decide (0 ≤ p) := by rw [← h]; exact decide_eq_decide.2 (by simp [hc])
    have hc2 : decide (1 ≤ c) = true := decide_eq_true hc
    clear h hc
    go_enter Tryd.func21, Tryd.ntmps21
    go_wp2_with fail
    go_ret
    refine ⟨rfl, ?_⟩
    repeat (first | with_reducible exact Below.refl _ _ | refine Below.setCell ?_ (by simp) _ | refine Below.alloc ?_ (by first | omega | (simp <;> omega)) _)
  · obtain rfl : Q = false := by rw [← h]; exact decide_eq_false fun g => hc g.1
    have hc2 : decide (1 ≤ c) = false := decide_eq_false hc
    clear h hc
    go_enter Tryd.func21, Tryd.ntmps21
    go_wp2_with fail
    go_ret
    refine ⟨rfl, ?_⟩
    repeat (first | with_reducible exact Below.refl _ _ | refine Below.setCell ?_ (by simp) _ | refine Below.alloc ?_ (by first | omega | (simp <;> omega)) _)
theorem okAt10 (f b l : Int) (t : ByteArray) (c p : Int) : evOkB ⟨10, f, b, l, t, c, p⟩ = (decide (1 ≤ c ∧ 0 ≤ p) && decide ((⟨10, 0, 0, 0, ⟨#[]⟩, c, p⟩ : Ev) = ⟨10, f, b, l, t, c, p⟩)) := by
  rw [Bool.eq_iff_iff]
  unfold evOkB
  simp only [decide_eq_true_eq, Bool.and_eq_true]
  unfold EvOk
  rw [show wantE ⟨10, f, b, l, t, c, p⟩ = ⟨10, 0, 0, 0, ⟨#[]⟩, c, p⟩ from rfl]
  constructor
  · rintro ⟨he, hk, hl, hp, hf, ht, hc⟩
    exact ⟨⟨hc rfl, hp⟩, he.symm⟩
  · rintro ⟨hr, he⟩
    have he := he.symm
    exact ⟨he, ⟨by simp, by simp⟩, (by have := congrArg Ev.len he; simp only at this ⊢; omega), hr.2, fun h => by simp only at h; omega, fun h => by simp only at h; omega, fun _ => hr.1⟩
theorem kindOf0 (k f b l : Int) (t : ByteArray) (c p : Int) (hk : k ≠ 1 ∧ k ≠ 2 ∧ k ≠ 3 ∧ k ≠ 4 ∧ k ≠ 5 ∧ k ≠ 6 ∧ k ≠ 7 ∧ k ≠ 8 ∧ k ≠ 9 ∧ k ≠ 10) (w : World) : Calls Tryd.prog 20 #[.agg #[.int .i64 k, .int .i64 f, .int .u64 b, .int .i64 l, .string t, .int .i64 c, .int .i64 p]] w fun x w' => x = .returned .nilIface ∧ Below w.heap.size w w' := by
  obtain ⟨k1, k2, k3, k4, k5, k6, k7, k8, k9, k10⟩ := hk
  have n1 := neI k1
  have n2 := neI k2
  have n3 := neI k3
  have n4 := neI k4
  have n5 := neI k5
  have n6 := neI k6
  have n7 := neI k7
  have n8 := neI k8
  have n9 := neI k9
  have n10 := neI k10
  clear k1 k2 k3 k4 k5 k6 k7 k8 k9 k10
  go_enter Tryd.func20, Tryd.ntmps20
  go_wp2_with fail
  go_ret
  refine ⟨rfl, ?_⟩
  repeat (first | with_reducible exact Below.refl _ _ | refine Below.setCell ?_ (by simp) _ | refine Below.alloc ?_ (by first | omega | (simp <;> omega)) _)
theorem inRange0 (w : World) : Calls Tryd.prog 21 #[.nilIface] w fun x w' => x = .returned (.bool false) ∧ Below w.heap.size w w' := by
  have ta1 : ∀ w : World, (Instr.typeAssert (.nilIface) 37 54 true).run Tryd.prog w = .ok (.tuple #[.agg #[.int .i64 0], .bool false]) w := fun _ => by kernel_rfl
  have ta2 : ∀ w : World, (Instr.typeAssert (.nilIface) 37 56 true).run Tryd.prog w = .ok (.tuple #[.agg #[.int .i64 0, .int .u64 0], .bool false]) w := fun _ => by kernel_rfl
  have ta3 : ∀ w : World, (Instr.typeAssert (.nilIface) 37 58 true).run Tryd.prog w = .ok (.tuple #[.agg #[.int .i64 0, .int .i64 0], .bool false]) w := fun _ => by kernel_rfl
  have ta4 : ∀ w : World, (Instr.typeAssert (.nilIface) 37 60 true).run Tryd.prog w = .ok (.tuple #[.agg #[.string ⟨#[]⟩], .bool false]) w := fun _ => by kernel_rfl
  have ta6 : ∀ w : World, (Instr.typeAssert (.nilIface) 37 63 true).run Tryd.prog w = .ok (.tuple #[.agg #[.int .i64 0, .int .i64 0], .bool false]) w := fun _ => by kernel_rfl
  have ta9 : ∀ w : World, (Instr.typeAssert (.nilIface) 37 67 true).run Tryd.prog w = .ok (.tuple #[.agg #[.int .i64 0], .bool false]) w := fun _ => by kernel_rfl
  have ta10 : ∀ w : World, (Instr.typeAssert (.nilIface) 37 69 true).run Tryd.prog w = .ok (.tuple #[.agg #[.int .i64 0, .int .i64 0], .bool false]) w := fun _ => by kernel_rfl
  have ta5 : ∀ w : World, (Instr.typeAssert (.nilIface) 37 62 true).run Tryd.prog w = .ok (.tuple #[.agg #[], .bool false]) w := fun _ => by kernel_rfl
  have ta7 : ∀ w : World, (Instr.typeAssert (.nilIface) 37 64 true).run Tryd.prog w = .ok (.tuple #[.agg #[], .bool false]) w := fun _ => by kernel_rfl
  have ta8 : ∀ w : World, (Instr.typeAssert (.nilIface) 37 65 true).run Tryd.prog w = .ok (.tuple #[.agg #[], .bool false]) w := fun _ => by kernel_rfl
  go_enter Tryd.func21, Tryd.ntmps21
  go_wp2_with fail
  go_ret
  refine ⟨rfl, ?_⟩
  repeat (first | with_reducible exact Below.refl _ _ | refine Below.setCell ?_ (by simp) _ | refine Below.alloc ?_ (by first | omega | (simp <;> omega)) _)
end Go.Proofs.YtbjndnpdmohjiaaDoor.Num
