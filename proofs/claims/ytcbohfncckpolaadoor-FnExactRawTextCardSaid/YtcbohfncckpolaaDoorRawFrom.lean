/-
  The walk of the reference's RawFrom: the schema's shapes and fields, with Ids in the place of indices; only new memory is written.
-/
import Derived.Test.YtcbohfncckpolaaDoorPushWith
import Derived.Test.YtcbohfncckpolaaDoorRound
import Derived.Test.YtcbohfncckpolaaDoorSchemaOk
namespace Go.Proofs.YtcbohfncckpolaaDoor.Num
open Go.RowKit Go.Proofs
set_option linter.unusedVariables false
set_option linter.unusedSimpArgs false

/-- A field with the Id of its message in the place of the index. -/
def backF (s : List RM) (f : RF) : RF := (f.1, f.2.1, f.2.2.1, f.2.2.2.1, if f.2.1 = 8 then (s.getD f.2.2.2.2.toNat (0, [])).1 else 0)
def backM (s : List RM) (m : RM) : RM := (m.1, m.2.map (backF s))
noncomputable def rawFromR (s : List RM) : List RM := if schemaB s = true then s.map (backM s) else []
theorem small_rawFrom {s : List RM} (h : Small s) : Small (rawFromR s) := by
  unfold rawFromR
  split
  · refine ⟨by simpa using h.1, fun m hm => ?_⟩
    obtain ⟨x, hx, rfl⟩ := List.mem_map.1 hm
    simpa [backM] using h.2 x hx
  · exact ⟨by simp, fun m hm => by simp at hm⟩
theorem schemaB_of {s : List RM} (h : schemaB s = true) : SchemaP s := Classical.byContradiction fun h' => by rw [schema_no h'] at h; cases h
theorem apart_of {u v : Value} {n : Nat} (hu : ∀ k, u.ownBlock = some k → k < n) (hv : ∀ k, v.ownBlock = some k → n < k) : Apart u v ∧ Apart v u := by
  refine ⟨?_, ?_⟩
  · cases h : u.ownBlock with
    | none => exact .inl h
    | some k => exact .inr fun e => by have h1 := hu k h; rw [h] at e; have h2 := hv k e.symm; omega
  · cases h : v.ownBlock with
    | none => exact .inl h
    | some k => exact .inr fun e => by have h1 := hv k h; rw [h] at e; have h2 := hu k e.symm; omega
theorem infoF : (Tryd.prog.info? 25).map (fun i => (i.zero, i.size, i.bytes)) = some (some (.agg #[.int .i64 0, .int .i64 0, .bool false, .bool false, .int .i64 0]), 5, 32) := by kernel_rfl
theorem infoM : (Tryd.prog.info? 67).map (fun i => (i.zero, i.size, i.bytes)) = some (some (.agg #[.int .i64 0, .slice none 0 0]), 2, 32) := by kernel_rfl
end Go.Proofs.YtcbohfncckpolaaDoor.Num
