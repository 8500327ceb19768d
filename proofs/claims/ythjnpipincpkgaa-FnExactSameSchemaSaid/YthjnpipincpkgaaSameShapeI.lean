/-
  The walk of the program's comparison of two shapes: whether Id and fields are equal; only new memory is written.
-/
import Derived.Test.YthjnpipincpkgaaFieldsEqS
namespace Go.Proofs.Ythjnpipincpkgaa.Num.Sch
open Go.RowKit Go.Proofs
set_option linter.unusedVariables false
set_option linter.unusedSimpArgs false

set_option maxHeartbeats 4000000 in
set_option maxRecDepth 100000 in
theorem sameMsg_any (id id' : Int) (v u : Value) (l m : List RF) (R : Bool) (w : World) (S : Nat → Prop) (hS : ∀ b, S b → b < w.heap.size) (hv : FieldsAt w S v l) (hu : FieldsAt w S u m) (hl : l.length < 4611686018427387904) (hm : m.length < 4611686018427387904) (tell : ((id, l) = (id', m) → R = true) ∧ ((id, l) ≠ (id', m) → R = false)) :
    Calls Try.prog 49 #[.agg #[.int .i64 id, v], .agg #[.int .i64 id', u]] w fun e w' => e = .returned (.bool R) ∧ Below w.heap.size w w' := by
  obtain ⟨a, cap, rfl⟩ := hv.len
  obtain ⟨a', cap', rfl⟩ := hu.len
  have H := Lib.hid hv
  have H' := Lib.hid hu
  have HS := Lib.hid hS
  have Tell := Lib.hid tell
  clear tell hv hu hS
  by_cases hid : id = id'
  · subst hid
    have T2 : Hid ((l = m → R = true) ∧ (l ≠ m → R = false)) := Lib.hid ⟨fun e => Tell.out.1 (by rw [e]), fun e => Tell.out.2 (by intro e'; injection e' with _ e'; exact e e')⟩
    clear Tell
    go_enter Try.func49, Try.ntmps49
    go_wp2_with fail
    have hb : Below w.heap.size w ((w.alloc (.cells #[.int .i64 id, .slice a l.length cap] 32)).alloc (.cells #[.int .i64 id, .slice a' m.length cap'] 32)) := ((Below.refl _ _).alloc (Nat.le_refl _) _).alloc (by simp) _
    refine (fieldsEq_any _ _ l m R _ S (fun b hb' => Nat.lt_of_lt_of_le (HS.out b hb') hb.size) (H.out.keep (.of_below hb HS.out) fun _ h => h) (H'.out.keep (.of_below hb HS.out) fun _ h => h) hl hm T2.out).mono ?_
    rintro e w1 ⟨rfl, hb1⟩
    have hb2 := hb.trans (hb1.mono hb.size)
    clear hb hb1
    go_wp2_with fail
    go_ret
    exact ⟨rfl, hb2⟩
  · obtain rfl : R = false := Tell.out.2 (by intro e; injection e with e _; exact hid e)
    have hib := neI hid
    clear hid Tell
    go_enter Try.func49, Try.ntmps49
    go_wp2_with fail
    go_ret
    exact ⟨rfl, ((Below.refl _ _).alloc (Nat.le_refl _) _).alloc (by simp) _⟩
end Go.Proofs.Ythjnpipincpkgaa.Num.Sch
