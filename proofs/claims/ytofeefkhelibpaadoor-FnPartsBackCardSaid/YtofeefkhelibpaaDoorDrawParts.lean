/-
  The walk of the reference's DrawParts: some short string and some byte; nothing that was there is written.
-/
import Derived.Test.YtofeefkhelibpaaDoorDrawNum
import Derived.Test.YtofeefkhelibpaaDoorPick
namespace Go.Proofs.YtofeefkhelibpaaDoor.Num
open Go.RowKit Go.Proofs

def DrawPartsP (w : World) (e : Ending) (w' : World) : Prop := ∃ (s : ByteArray) (b : UInt8), s.size ≤ 8 ∧ e = .returned (.tuple #[.string s, .int .u8 (b.toNat : Int)]) ∧ Below w.heap.size w w'
set_option maxHeartbeats 400000 in
theorem drawParts_any (a : Option Addr) (len cap : Nat) (w : World) (h : CodeAt w w.heap.size a len) :
    Calls Tryd.prog 15 #[.slice a len cap] w (DrawPartsP w) := by
  have H := Lib.hid h; clear h
  go_enter Tryd.func15, Tryd.ntmps15
  go_wp2_with fail
  refine (l1New_any _ a len cap _ (Nat.le_refl _) H.out).mono ?_
  rintro e w1 ⟨g, rfl, hc1, hb1, hg1, hg1'⟩
  have Hc1 := Lib.hid hc1; clear hc1
  have hz1 := hb1.size
  go_wp2_with fail
  refine (l1Pick_any _ g a len cap _ 6 6 [⟨#[]⟩, ⟨#[97]⟩, ⟨#[97, 44, 98]⟩, ⟨#[44]⟩, ⟨#[97, 44, 44, 98, 44]⟩, ⟨#[97, 10, 98, 10]⟩] _ _ _ _ (Hc1.out.other ((Below.refl w1.heap.size _).alloc (Nat.le_refl _) _) (by omega) (by omega)) (heap_alloc_new _ _) rfl rfl (by omega) (by omega) (by omega)).mono ?_
  rintro e w2 ⟨s, hs, rfl, hc2, ho2⟩
  have hss : s.size ≤ 8 := by
    simp only [List.mem_cons, List.not_mem_nil, or_false] at hs
    rcases hs with rfl | rfl | rfl | rfl | rfl | rfl <;> decide
  have hb2 : Below w.heap.size w1 w2 := ((Below.refl _ _).alloc (by omega) _).trans (ho2.below hg1 (by simp; omega))
  have hz2 : w1.heap.size + 1 ≤ w2.heap.size := by have := ho2.size; simp at this; omega
  have Hc2 := Lib.hid hc2
  clear ho2 hc2 hs
  go_wp2_with fail
  refine (l1PickInt_any _ g a len cap _ 2 2 [44, 10] _ _ _ _ (Hc2.out.other ((Below.refl w2.heap.size _).alloc (Nat.le_refl _) _) (by omega) (by omega)) (heap_alloc_new _ _) rfl rfl (by omega) (by omega) (by omega)).mono ?_
  rintro e w3 ⟨z, hz, rfl, hc3, ho3⟩
  have hzb : z = 44 ∨ z = 10 := by simpa using hz
  have hb3 : Below w.heap.size w2 w3 := ((Below.refl _ _).alloc (by omega) _).trans (ho3.below hg1 (by simp; omega))
  clear ho3 hc3 hz
  rcases hzb with rfl | rfl
  · go_wp2_with fail
    go_ret2
    exact ⟨s, 44, hss, rfl, (hb1.trans hb2).trans hb3⟩
  · go_wp2_with fail
    go_ret2
    exact ⟨s, 10, hss, rfl, (hb1.trans hb2).trans hb3⟩
end Go.Proofs.YtofeefkhelibpaaDoor.Num
