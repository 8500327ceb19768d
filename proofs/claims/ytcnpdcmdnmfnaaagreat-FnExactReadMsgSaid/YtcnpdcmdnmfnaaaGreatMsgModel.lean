/-
  A message that is read, as plain functions: a text, a length, a field, all fields (by how many may still come), the whole. For any program.
-/
import Derived.Test.YtcnpdcmdnmfnaaaGreatMsgNum
import Derived.Test.YtcnpdcmdnmfnaaaGreatUtfMath
import Derived.Test.YtcnpdcmdnmfnaaaGreatMergeMath
namespace Go.Proofs.YtcnpdcmdnmfnaaaGreat.Num
open Go.RowKit Go.Proofs
set_option linter.unusedVariables false

def openE (f n : Int) : Ev := ⟨3, f, 0, n, ⟨#[]⟩, 0, 0⟩
def partE (t : ByteArray) : Ev := ⟨4, 0, 0, 0, t, 0, 0⟩
def shutE : Ev := ⟨5, 0, 0, 0, ⟨#[]⟩, 0, 0⟩
def downE (f n : Int) : Ev := ⟨6, f, 0, n, ⟨#[]⟩, 0, 0⟩
def upE : Ev := ⟨7, 0, 0, 0, ⟨#[]⟩, 0, 0⟩
/-- Of n bytes from p on, those that are there. -/
def thereB (s : ByteArray) (p n : Nat) : ByteArray := s.extract p (min s.size (p + n))
def utfOf (k : Int) (t : ByteArray) : Utf.St × Option Nat := if k = 6 then Utf.run Utf.z t.data.toList else (Utf.z, none)
def frontB (t : ByteArray) : Option Nat → ByteArray
  | some b => t.extract 0 b
  | none => t
def rdPart (t : ByteArray) (r : RdM) : RdM := if t.size = 0 then r else r.tell (partE t)
def rdEnd (s : ByteArray) (n : Nat) (t : ByteArray) (q : Utf.St × Option Nat) (r : RdM) : RdM :=
  match q.2 with
  | some b => r.bad 5 ((r.place : Int) + b)
  | none => if t.size < n then r.bad 10 s.size else if 0 < q.1.1 then r.bad 5 ((r.place + n : Nat) : Int) else (r.to (r.place + n)).tell shutE
/-- A text or bytes. -/
def rdPayload (s : ByteArray) (f : RF) (n : Nat) (r : RdM) : RdM :=
  rdEnd s n (thereB s r.place n) (utfOf f.2.1 (thereB s r.place n)) (rdPart (frontB (thereB s r.place n) (utfOf f.2.1 (thereB s r.place n)).2) (r.tell (openE f.1 n)))
/-- A packed run up to a place. -/
def rdRun (s : ByteArray) (f : RF) (E : Int) : Nat → RdM → RdM
  | 0, r => r
  | n + 1, r => if (r.place : Int) < E ∧ r.fail.kind = 0 then rdRun s f E n (rdNum s f (wireR f.2.1) E r) else r
/-- What a length tells of; M reads a message. -/
def rdBody (M : Int → Int → Int → RdM → RdM) (n : Nat) (s : ByteArray) (D : Int) (f : RF) (start : Nat) (m : Nat) (deep : Int) (r : RdM) : RdM :=
  if f.1 = 0 then (if s.size - r.place < m then r.bad 10 s.size else r.to (r.place + m))
  else if f.2.1 = 8 then
    (if D ≤ deep then r.bad 6 start
     else if (M f.2.2.2.2 ((r.place + m : Nat) : Int) (deep + 1) (r.tell (downE f.1 m))).fail.kind = 0 then (M f.2.2.2.2 ((r.place + m : Nat) : Int) (deep + 1) (r.tell (downE f.1 m))).tell upE
     else M f.2.2.2.2 ((r.place + m : Nat) : Int) (deep + 1) (r.tell (downE f.1 m)))
  else if f.2.1 = 6 ∨ f.2.1 = 7 then rdPayload s f m r
  else rdRun s f ((r.place + m : Nat) : Int) n r
def rdLong2 (M : Int → Int → Int → RdM → RdM) (n : Nat) (s : ByteArray) (D : Int) (f : RF) (start : Nat) (E deep : Int) (q : Int × RdM) : RdM :=
  if q.2.fail.kind ≠ 0 then q.2
  else if E - (q.2.place : Int) < q.1 then q.2.bad 8 start
  else rdBody M n s D f start q.1.toNat deep q.2
def rdLong (M : Int → Int → Int → RdM → RdM) (n : Nat) (s : ByteArray) (D : Int) (f : RF) (E deep : Int) (r : RdM) : RdM := rdLong2 M n s D f r.place E deep (rdVar s E r)
/-- A field: its tag is read. -/
def rdTag2 (M : Int → Int → Int → RdM → RdM) (n : Nat) (s : ByteArray) (D : Int) (E deep : Int) (start : Nat) (t : Int × Int × Bool) (fk : RF × Bool) (r : RdM) : RdM :=
  if t.2.2 = false then r.bad 2 start
  else if wireOkB t.2.1 = false then r.bad 3 start
  else if (fk.2 && !allowedB fk.1 t.2.1) = true then r.bad 4 start
  else if t.2.1 = 2 then rdLong M n s D fk.1 E deep r
  else rdNum s fk.1 t.2.1 E r
def rdStep (M : Int → Int → Int → RdM → RdM) (n : Nat) (s : ByteArray) (sch : List RM) (D : Int) (shape E deep : Int) (r : RdM) : RdM :=
  if (rdVar s E r).2.fail.kind ≠ 0 then (rdVar s E r).2
  else rdTag2 M n s D E deep r.place (tagInR (rdVar s E r).1.toNat) (fieldAtR sch shape (tagInR (rdVar s E r).1.toNat).1) (rdVar s E r).2
/-- All fields up to a place; n: more than bytes are left. -/
def msgRd (s : ByteArray) (sch : List RM) (D : Int) : Nat → Int → Int → Int → RdM → RdM
  | 0, _, _, _, r => r
  | n + 1, shape, E, deep, r => if (r.place : Int) < E ∧ r.fail.kind = 0 then msgRd s sch D n shape E deep (rdStep (msgRd s sch D n) n s sch D shape E deep r) else r
theorem msgRd_more {s : ByteArray} {sch : List RM} {D : Int} {n : Nat} {shape E deep : Int} {r : RdM} (h : (r.place : Int) < E ∧ r.fail.kind = 0) : msgRd s sch D (n + 1) shape E deep r = msgRd s sch D n shape E deep (rdStep (msgRd s sch D n) n s sch D shape E deep r) := by
  show (if _ then _ else _) = _; rw [if_pos h]
theorem msgRd_end {s : ByteArray} {sch : List RM} {D : Int} {n : Nat} {shape E deep : Int} {r : RdM} (h : ¬ ((r.place : Int) < E ∧ r.fail.kind = 0)) : msgRd s sch D n shape E deep r = r := by
  cases n with
  | zero => rfl
  | succ n => show (if _ then _ else _) = _; rw [if_neg h]
theorem rdRun_more {s : ByteArray} {f : RF} {E : Int} {n : Nat} {r : RdM} (h : (r.place : Int) < E ∧ r.fail.kind = 0) : rdRun s f E (n + 1) r = rdRun s f E n (rdNum s f (wireR f.2.1) E r) := by
  show (if _ then _ else _) = _; rw [if_pos h]
theorem rdRun_end {s : ByteArray} {f : RF} {E : Int} {n : Nat} {r : RdM} (h : ¬ ((r.place : Int) < E ∧ r.fail.kind = 0)) : rdRun s f E n r = r := by
  cases n with
  | zero => rfl
  | succ n => show (if _ then _ else _) = _; rw [if_neg h]
/-- The whole: what is told, and what went wrong. -/

noncomputable def rdOkB (sch : List RM) (A B C shape : Int) (s : ByteArray) (a E deep : Int) : Bool := planB sch A B C && decide (0 ≤ shape ∧ shape ≤ (sch.length : Int) - 1) && decide (0 ≤ a ∧ a ≤ s.size) && decide (a ≤ E) && decide (1 ≤ deep ∧ deep ≤ B)
noncomputable def readR (sch : List RM) (A B C shape : Int) (s : ByteArray) (a E deep : Int) : List Ev × Ev :=
  if rdOkB sch A B C shape s a E deep = true then ((msgRd s sch B (s.size + 1) shape E deep ⟨a.toNat, [], zeroE⟩).out, (msgRd s sch B (s.size + 1) shape E deep ⟨a.toNat, [], zeroE⟩).fail) else ([], zeroE)
end Go.Proofs.YtcnpdcmdnmfnaaaGreat.Num
