/-
  errors.As, as the program calls it: with nil, and with an error whose own type is the program's violationError, at a target that is a variable of that type.
-/
import Derived.Test.YthjnpipincpkgaaGreatDoorProg
import Derived.WalkKit
import Derived.LaidEql
import Derived.Stop.Asserts
import Derived.RowKitTokens
import Derived.LaidHandle
import Derived.Test.YthjnpipincpkgaaGreatDoorBox
namespace Go.Proofs.YthjnpipincpkgaaGreatDoor.Num
open Go.RowKit Go.Proofs Go Go.Extern.Stop Go.Stop Go.Extern
set_option linter.unusedVariables false

/-- What errors.errorType holds: the handle of the type 'error'. -/
def errorTypeV : Value := .iface 144 (.agg #[.pointer (some ⟨1, 84, none⟩)])
def ErrType (w : World) : Prop := w.cell? ⟨0, 0, none⟩ = some errorTypeV
/-- errors.As(nil, target). -/
theorem asViol_nil (t : Value) (w : World) :
    Calls Tryz.prog 64 #[.nilIface, t] w fun e w' => e = .returned (.bool false) ∧ w' = w := by
  go_enter Tryz.func64, Tryz.ntmps64
  go_wp2
  go_ret
  exact ⟨rfl, rfl⟩
/-- A Value of reflectlite: of type T, at a, with these flags. -/
abbrev rv (T : Nat) (a : Addr) (fl : Int) : Value := .agg #[.pointer (some ⟨1, T, none⟩), .pointer (some a), .int .u64 fl]
theorem av_valueOfP (t : Addr) (w : World) : (ReflectliteValue.unpack (.iface 102 (.pointer (some t)))).run Tryz.prog w
    = .ok (.agg #[.pointer (some ⟨1, 102, none⟩), .pointer (some ⟨w.heap.size, 0, none⟩), .int .u64 150]) (w.alloc (.cells #[.pointer (some t)] 102)) := by kernel_rfl
theorem av_typeP (a : Addr) (w : World) : (ReflectliteValue.methodAny (ReflectliteValue.valueError "reflectlite.Value.Type" 0) (fun t _ _ _ => ReflectliteType.toType t) #[.agg #[.pointer (some ⟨1, 102, none⟩), .pointer (some a), .int .u64 150]]).run Tryz.prog w
    = .ok (.iface 144 (.agg #[.pointer (some ⟨1, 102, none⟩)])) w := by kernel_rfl
theorem av_mKind (h : Value) (w : World) : (Go.method 319 144 (.agg #[h]) "Kind").run Tryz.prog w = .ok (152, h) w := by kernel_rfl
theorem av_kindP (w : World) : ((ReflectliteType.abiMethod fun t => (fun a : Nat => Value.int IntKind.u8 (a : Int)) <$> Rtype.kind t) #[.pointer (some ⟨1, 102, none⟩)]).run Tryz.prog w = .ok (.int .u8 22) w := by kernel_rfl
theorem av_kindV (w : World) : ((ReflectliteType.abiMethod fun t => (fun a : Nat => Value.int IntKind.u8 (a : Int)) <$> Rtype.kind t) #[.pointer (some ⟨1, 100, none⟩)]).run Tryz.prog w = .ok (.int .u8 25) w := by kernel_rfl
theorem av_rlm (z : Sem Value) (f : TypeId → Addr → Nat → Nat → Sem Value) (v : Value) :
    ReflectliteValue.method z f #[v] = (do match ← ReflectliteValue.parts v with | none => z | some (t, a, fl) => f t a fl (fl % 32)) := rfl
theorem av_partsP (a : Addr) (w : World) : (ReflectliteValue.parts (.agg #[.pointer (some ⟨1, 102, none⟩), .pointer (some a), .int .u64 150])).run Tryz.prog w = .ok (some (102, a, 150)) w := by kernel_rfl
theorem av_isNil (a p : Addr) (W : World) (ha : W.cell? a = some (.pointer (some p))) :
    (ReflectliteValue.method (ReflectliteValue.valueError "reflectlite.Value.IsNil" 0) ReflectliteValue.isNil #[.agg #[.pointer (some ⟨1, 102, none⟩), .pointer (some a), .int .u64 150]]).run Tryz.prog W = .ok (.bool false) W := by
  rw [av_rlm]
  simp only [Sem.run_bind, av_partsP, Result.andThen]
  simp [ReflectliteValue.isNil, loadVar, isAgg, underlying, Tryz.underlying102, ha, Result.andThen]
theorem av_mElem (h : Value) (w : World) : (Go.method 319 144 (.agg #[h]) "Elem").run Tryz.prog w = .ok (162, .agg #[h]) w := by kernel_rfl
theorem av_mImplements (h : Value) (w : World) : (Go.method 319 144 (.agg #[h]) "Implements").run Tryz.prog w = .ok (163, .agg #[h]) w := by kernel_rfl
theorem av_mAssignableTo (h : Value) (w : World) : (Go.method 319 144 (.agg #[h]) "AssignableTo").run Tryz.prog w = .ok (160, .agg #[h]) w := by kernel_rfl
theorem av_elemT (w : World) : (ReflectliteType.method ReflectliteType.elem #[.agg #[.pointer (some ⟨1, 102, none⟩)]]).run Tryz.prog w = .ok (.iface 144 (.agg #[.pointer (some ⟨1, 100, none⟩)])) w := by kernel_rfl
theorem av_implements (w : World) : (ReflectliteType.relation "Implements" ReflectliteType.implements_ #[.agg #[.pointer (some ⟨1, 100, none⟩)], .iface 144 (.agg #[.pointer (some ⟨1, 84, none⟩)])]).run Tryz.prog w = .ok (.bool true) w := by kernel_rfl
theorem av_typeOf (v : Value) (w : World) : (ReflectliteType.typeOf #[.iface 100 v]).run Tryz.prog w = .ok (.iface 144 (.agg #[.pointer (some ⟨1, 100, none⟩)])) w := by kernel_rfl
theorem av_assignable (w : World) : (ReflectliteType.relation "AssignableTo" ReflectliteType.assignableTo #[.agg #[.pointer (some ⟨1, 100, none⟩)], .iface 144 (.agg #[.pointer (some ⟨1, 100, none⟩)])]).run Tryz.prog w = .ok (.bool true) w := by kernel_rfl
theorem av_valueOfV (a b c : Int) (w : World) : (ReflectliteValue.unpack (.iface 100 (.agg #[.int .i64 a, .int .i64 b, .int .i64 c]))).run Tryz.prog w
    = .ok (.agg #[.pointer (some ⟨1, 100, none⟩), .pointer (some ⟨w.heap.size, 0, none⟩), .int .u64 153]) (w.alloc (.cells #[.int .i64 a, .int .i64 b, .int .i64 c] 100)) := by kernel_rfl
theorem av_elemOf (w : World) : (Rtype.elem? 102).run Tryz.prog w = .ok (some 100) w := by kernel_rfl
theorem av_mkV (p : Addr) (w : World) : (ReflectliteValue.mk 100 p ReflectliteValue.flagAddr).run Tryz.prog w = .ok (.agg #[.pointer (some ⟨1, 100, none⟩), .pointer (some p), .int .u64 409]) w := by kernel_rfl
theorem av_elemV (a p : Addr) (W : World) (ha : W.cell? a = some (.pointer (some p))) :
    (ReflectliteValue.method (ReflectliteValue.valueError "reflectlite.Value.Elem" 0) ReflectliteValue.elem #[.agg #[.pointer (some ⟨1, 102, none⟩), .pointer (some a), .int .u64 150]]).run Tryz.prog W
      = .ok (.agg #[.pointer (some ⟨1, 100, none⟩), .pointer (some p), .int .u64 409]) W := by
  rw [av_rlm]
  simp only [Sem.run_bind, av_partsP, Result.andThen]
  simp [ReflectliteValue.elem, loadVar, isAgg, underlying, Tryz.underlying102, ha, Result.andThen, av_elemOf, av_mkV]
theorem av_rls (v x : Value) : ReflectliteValue.set #[v, x] = (do
    let (some (dst, a, fl), some (src, b, _)) := (← ReflectliteValue.parts v, ← ReflectliteValue.parts x)
      | unsupported (.noEntry "extern/(internal/reflectlite.Value).Set.zeroValue")
    if fl / ReflectliteValue.flagAddr % 2 == 0 then unsupported (.noEntry "extern/(internal/reflectlite.Value).Set.unaddressable")
    let val ← loadVar src b
    if ← Rtype.directlyAssignable dst src then storeVar dst a val
    else if ← Rtype.implements dst src then
      if (← Rtype.kind src) == 20 then
        match val with
        | .nilIface => unsupported (.noEntry "extern/reflectlite: a nil value of one interface type handed on as a value of another")
        | _ => storeVar dst a val
      else storeVar dst a (.iface src val)
    else panicString ("reflectlite.Set: value of type " ++ (← Rtype.spelt src) ++ " is not assignable to type " ++ (← Rtype.spelt dst))
    pure (.tuple #[])) := rfl
theorem av_partsVa (a : Addr) (w : World) : (ReflectliteValue.parts (.agg #[.pointer (some ⟨1, 100, none⟩), .pointer (some a), .int .u64 409])).run Tryz.prog w = .ok (some (100, a, 409)) w := by kernel_rfl
theorem av_partsV (a : Addr) (w : World) : (ReflectliteValue.parts (.agg #[.pointer (some ⟨1, 100, none⟩), .pointer (some a), .int .u64 153])).run Tryz.prog w = .ok (some (100, a, 153)) w := by kernel_rfl
theorem av_direct (w : World) : (Rtype.directlyAssignable 100 100).run Tryz.prog w = .ok true w := by kernel_rfl
theorem av_load (b : Nat) (x y z : Int) (W : World) (hx : W.cell? ⟨b, 0, none⟩ = some (.int .i64 x)) (hy : W.cell? ⟨b, 1, none⟩ = some (.int .i64 y)) (hz : W.cell? ⟨b, 2, none⟩ = some (.int .i64 z)) :
    (loadVar 100 ⟨b, 0, none⟩).run Tryz.prog W = .ok (.agg #[.int .i64 x, .int .i64 y, .int .i64 z]) W := by
  simp [loadVar, isAgg, underlying, Tryz.underlying100, loadCells, loadCellsFrom, hx, hy, hz, Result.andThen, Addr.add]
theorem av_store (T j : Nat) (v o : Value) (W : World) (hv : v.oneCell' = true) (h : W.cell? ⟨T, j, none⟩ = some o) (hf : W.frozen? ⟨T, j, none⟩ = false) : (store ⟨T, j, none⟩ v).run Tryz.prog W = .ok () (W.setCell ⟨T, j, none⟩ v) := by
  rw [run_store Tryz.prog W _ _ _ hv]
  simp [h, hf]
/-- (Value).Set: the Violation at block T gets what the Value's own block b holds. -/
theorem av_set (T b : Nat) (x y z o0 o1 o2 : Int) (W : World) (hb : Box W b [.int .i64 x, .int .i64 y, .int .i64 z]) (ht : Box W T [.int .i64 o0, .int .i64 o1, .int .i64 o2]) :
    (ReflectliteValue.set #[.agg #[.pointer (some ⟨1, 100, none⟩), .pointer (some ⟨T, 0, none⟩), .int .u64 409], .agg #[.pointer (some ⟨1, 100, none⟩), .pointer (some ⟨b, 0, none⟩), .int .u64 153]]).run Tryz.prog W
      = .ok (.tuple #[]) (((W.setCell ⟨T, 0, none⟩ (.int .i64 x)).setCell ⟨T, 1, none⟩ (.int .i64 y)).setCell ⟨T, 2, none⟩ (.int .i64 z)) := by
  obtain ⟨b0, b1, b2, _⟩ := hb.three
  obtain ⟨t0, _, _, f0, _, _⟩ := ht.three
  have h1 := ht.set 0 (.int .i64 x)
  obtain ⟨_, t1, _, _, f1, _⟩ := Box.three h1
  have h2 := h1.set 1 (.int .i64 y)
  obtain ⟨_, _, t2, _, _, f2⟩ := Box.three h2
  have hl := av_load b x y z W b0 b1 b2
  have s0 := av_store T 0 (.int .i64 x) _ W rfl t0 f0
  have s1 := av_store T 1 (.int .i64 y) _ _ rfl t1 f1
  have s2 := av_store T 2 (.int .i64 z) _ _ rfl t2 f2
  rw [av_rls]
  simp only [Sem.run_bind, av_partsVa, av_partsV, Result.andThen]
  simp [ReflectliteValue.flagAddr, hl, Result.andThen, av_direct, storeVar, Value.cells, storeCells, Addr.add, s0, s1, s2]
set_option maxHeartbeats 4000000 in
/-- errors.As(v, &target): true; the target holds v. -/
theorem asViol_hit (T : Nat) (x y z o0 o1 o2 : Int) (w : World) (hg : ErrType w) (ht : Box w T [.int .i64 o0, .int .i64 o1, .int .i64 o2]) :
    Calls Tryz.prog 64 #[.iface 100 (.agg #[.int .i64 x, .int .i64 y, .int .i64 z]), .iface 102 (.pointer (some ⟨T, 0, none⟩))] w fun e w' => e = .returned (.bool true) ∧ Box w' T [.int .i64 x, .int .i64 y, .int .i64 z] ∧ Below T w w' := by
  have h43 := @run_callFunc_extern Tryz.prog 88 _ (fun args => ReflectliteValue.unpack (args.getD 0 (.tuple #[]))) Tryz.func88 (by kernel_rfl) (by kernel_rfl) (by kernel_rfl) (by kernel_rfl)
  have h44 := @run_callFunc_extern Tryz.prog 89 _ (ReflectliteValue.methodAny (ReflectliteValue.valueError "reflectlite.Value.Type" 0) (fun t _ _ _ => ReflectliteType.toType t)) Tryz.func89 (by kernel_rfl) (by kernel_rfl) (by kernel_rfl) (by kernel_rfl)
  have h45 := @run_callFunc_extern Tryz.prog 90 _ (ReflectliteValue.method (ReflectliteValue.valueError "reflectlite.Value.IsNil" 0) ReflectliteValue.isNil) Tryz.func90 (by kernel_rfl) (by kernel_rfl) (by kernel_rfl) (by kernel_rfl)
  have hkn := @run_callFunc_extern Tryz.prog 152 _ (ReflectliteType.abiMethod fun t => do pure (.int .u8 (← Rtype.kind t))) Tryz.func152 (by kernel_rfl) (by kernel_rfl) (by kernel_rfl) (by kernel_rfl)
  have hel := @run_callFunc_extern Tryz.prog 162 _ (ReflectliteType.method ReflectliteType.elem) Tryz.func162 (by kernel_rfl) (by kernel_rfl) (by kernel_rfl) (by kernel_rfl)
  have him := @run_callFunc_extern Tryz.prog 163 _ (ReflectliteType.relation "Implements" ReflectliteType.implements_) Tryz.func163 (by kernel_rfl) (by kernel_rfl) (by kernel_rfl) (by kernel_rfl)
  have hto := @run_callFunc_extern Tryz.prog 105 _ ReflectliteType.typeOf Tryz.func105 (by kernel_rfl) (by kernel_rfl) (by kernel_rfl) (by kernel_rfl)
  have has := @run_callFunc_extern Tryz.prog 160 _ (ReflectliteType.relation "AssignableTo" ReflectliteType.assignableTo) Tryz.func160 (by kernel_rfl) (by kernel_rfl) (by kernel_rfl) (by kernel_rfl)
  have hve := @run_callFunc_extern Tryz.prog 106 _ (ReflectliteValue.method (ReflectliteValue.valueError "reflectlite.Value.Elem" 0) ReflectliteValue.elem) Tryz.func106 (by kernel_rfl) (by kernel_rfl) (by kernel_rfl) (by kernel_rfl)
  have hse := @run_callFunc_extern Tryz.prog 107 _ ReflectliteValue.set Tryz.func107 (by kernel_rfl) (by kernel_rfl) (by kernel_rfl) (by kernel_rfl)
  have k1 := av_typeOf
  have k2 := av_mAssignableTo
  have k3 := av_assignable
  have k4 := av_valueOfV
  have k5 := av_valueOfP
  have k6 := av_typeP
  have k7 := av_mKind
  have k8 := av_mElem
  have k9 := av_mImplements
  have k10 := av_kindP
  have k11 := av_kindV
  have k12 := av_elemT
  have k13 := av_implements
  have htl := ht.lt
  have hlt : 0 < w.heap.size := by
    unfold ErrType World.cell? at hg
    rcases Nat.lt_or_ge 0 w.heap.size with h | h
    · exact h
    · simp [Array.getElem?_eq_none h] at hg
  -- the four worlds on the way
  obtain ⟨wa, hwa⟩ : ∃ wa, w.alloc (.cells #[.pointer (some ⟨T, 0, none⟩)] 102) = wa := ⟨_, rfl⟩
  obtain ⟨wb, hwb⟩ : ∃ wb, wa.alloc (.cells #[.pointer (some ⟨1, 102, none⟩), .pointer (some ⟨w.heap.size, 0, none⟩), .int .u64 150] 127) = wb := ⟨_, rfl⟩
  obtain ⟨wc, hwc⟩ : ∃ wc, wb.alloc (.cells #[.pointer (some ⟨1, 102, none⟩), .pointer (some ⟨w.heap.size, 0, none⟩), .int .u64 150] 127) = wc := ⟨_, rfl⟩
  obtain ⟨wd, hwd⟩ : ∃ wd, wc.alloc (.cells #[.int .i64 x, .int .i64 y, .int .i64 z] 100) = wd := ⟨_, rfl⟩
  have za : wa.heap.size = w.heap.size + 1 := by rw [← hwa]; simp
  have zb : wb.heap.size = w.heap.size + 2 := by rw [← hwb]; simp [za]
  have zc : wc.heap.size = w.heap.size + 3 := by rw [← hwc]; simp [zb]
  have zd : wd.heap.size = w.heap.size + 4 := by rw [← hwd]; simp [zc]
  have ba : Below w.heap.size w wa := hwa ▸ (Below.refl _ _).alloc (Nat.le_refl _) _
  have bb : Below w.heap.size w wb := hwb ▸ ba.alloc (by omega) _
  have bc : Below w.heap.size w wc := hwc ▸ bb.alloc (by omega) _
  have bd : Below w.heap.size w wd := hwd ▸ bc.alloc (by omega) _
  have xa : Box wa w.heap.size [.pointer (some ⟨T, 0, none⟩)] := hwa ▸ Box.fresh _ _ _
  have xb : Box wb w.heap.size [.pointer (some ⟨T, 0, none⟩)] := hwb ▸ xa.alloc _
  have xc : Box wc w.heap.size [.pointer (some ⟨T, 0, none⟩)] := hwc ▸ xb.alloc _
  have xd : Box wd (w.heap.size + 3) [.int .i64 x, .int .i64 y, .int .i64 z] := by
    have h := Box.fresh wc #[.int .i64 x, .int .i64 y, .int .i64 z] 100
    rw [hwd, zc] at h; exact h
  have td := ht.below bd htl
  have n1 := av_isNil ⟨w.heap.size, 0, none⟩ ⟨T, 0, none⟩ wb (xb.2 0 (by simp)).1
  have n2 := av_elemV ⟨w.heap.size, 0, none⟩ ⟨T, 0, none⟩ wc (xc.2 0 (by simp)).1
  have n3 := av_set T (w.heap.size + 3) x y z o0 o1 o2 wd xd td
  have g2 : wb.cell? ⟨0, 0, none⟩ = some errorTypeV := (bb.cell (p := ⟨0, 0, none⟩) hlt).trans hg
  have vb : Box wb (w.heap.size + 1) [.pointer (some ⟨1, 102, none⟩), .pointer (some ⟨w.heap.size, 0, none⟩), .int .u64 150] := by
    have h := Box.fresh wa #[.pointer (some ⟨1, 102, none⟩), .pointer (some ⟨w.heap.size, 0, none⟩), .int .u64 150] 127
    rw [hwb, za] at h; exact h
  have vc : Box wc (w.heap.size + 2) [.pointer (some ⟨1, 102, none⟩), .pointer (some ⟨w.heap.size, 0, none⟩), .int .u64 150] := by
    have h := Box.fresh wb #[.pointer (some ⟨1, 102, none⟩), .pointer (some ⟨w.heap.size, 0, none⟩), .int .u64 150] 127
    rw [hwc, zb] at h; exact h
  obtain ⟨c0, c1, c2, _⟩ := vb.three
  obtain ⟨d0, d1, d2, _⟩ := vc.three
  have hT := td.set 0 (.int .i64 x) |>.set 1 (.int .i64 y) |>.set 2 (.int .i64 z)
  have hB : Below T w (((wd.setCell ⟨T, 0, none⟩ (.int .i64 x)).setCell ⟨T, 1, none⟩ (.int .i64 y)).setCell ⟨T, 2, none⟩ (.int .i64 z)) := (((bd.mono (Nat.le_of_lt htl)).setCell (Nat.le_refl _) _).setCell (Nat.le_refl _) _).setCell (Nat.le_refl _) _
  have HT := Lib.hid hT
  have HB := Lib.hid hB
  clear hT hB xa xb xc xd td ba bb bc bd vb vc ht hg
  unfold errorTypeV at g2
  go_enter Tryz.func64, Tryz.ntmps64
  go_wp2
  refine wp_loop_rounds 1 ?_
  rw [rounds_succ]
  go_wp2
  go_ret
  exact ⟨rfl, HT.out, HB.out⟩
end Go.Proofs.YthjnpipincpkgaaGreatDoor.Num
