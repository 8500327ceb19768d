/-
  The walks of the reference's ScanOk, ScanByte and FixByte: they give what the plain definitions here say; only new memory is written.
-/
import Derived.Test.YtcnpdcmdnmfnaaaVar
import Derived.Test.YtcnpdcmdnmfnaaaVarGet
import Derived.Outline
namespace Go.Proofs.Ytcnpdcmdnmfnaaa.Num
open Go.RowKit Go.Proofs

def scV (b : Nat) (h : Int) : Value := .agg #[.int .u64 b, .int .i64 h]
def scanOkB (b : Nat) (h : Int) : Bool := decide (0 ≤ h ∧ h ≤ 9) && decide (b < 2 ^ (7 * h.toNat))
/-- State and code behind one byte. -/
def scanByteR (b : Nat) (h x : Int) : Nat × Int × Int :=
  if scanOkB b h = true ∧ (0 ≤ x ∧ x ≤ 255) ∧ ¬ (h = 9 ∧ 1 < x) then (b + x.toNat % 128 * 2 ^ (7 * h.toNat), h + 1, if x < 128 then 1 else 0) else (b, h, 2)
def fixByteR (b : Nat) (h x : Int) : Int × Int :=
  if (0 ≤ h ∧ h ≤ 7) ∧ (0 ≤ x ∧ x ≤ 255) then ((IntKind.u64.wrap ((b : Int) + IntKind.u64.wrap (x * 2 ^ (8 * h.toNat)))), h + 1) else (b, h)
theorem bcell {W w1 : World} (hb : Below W.heap.size W w1) : (∀ b o, b < W.heap.size → w1.cell? ⟨b, o, none⟩ = W.cell? ⟨b, o, none⟩) ∧ (∀ b o, b < W.heap.size → w1.frozen? ⟨b, o, none⟩ = W.frozen? ⟨b, o, none⟩) :=
  ⟨fun b o h => hb.cell (p := ⟨b, o, none⟩) h, fun b o h => hb.frozen (p := ⟨b, o, none⟩) h⟩
theorem scanByteR_no {b : Nat} {h x : Int} (hno : ¬ (scanOkB b h = true ∧ (0 ≤ x ∧ x ≤ 255) ∧ ¬ (h = 9 ∧ 1 < x))) : scanByteR b h x = (b, h, 2) := by unfold scanByteR; rw [if_neg hno]
theorem fixByteR_no {b : Nat} {h x : Int} (hno : ¬ ((0 ≤ h ∧ h ≤ 7) ∧ (0 ≤ x ∧ x ≤ 255))) : fixByteR b h x = ((b : Int), h) := by unfold fixByteR; rw [if_neg hno]
end Go.Proofs.Ytcnpdcmdnmfnaaa.Num
