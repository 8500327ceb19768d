/-
  A row's package variables read again as they did behind a call that wrote new memory only, whatever their types.
-/
import Derived.Test.YtbjndnpdmohjiaaDoorFrame
import Derived.ChangeVars
namespace Go.Proofs.YtbjndnpdmohjiaaDoor.Num
open Go.RowKit Go.Proofs Go.ChangeShapes Go.WideShapes

/-- A variable that has a value lies below the heap's size. -/
theorem var_lt {P : Program} {w : World} {n : String} {g : Nat} {cs : Array Value} (hg : P.globalNamed n = some g) (h : w.var? P n = some cs) : g < w.heap.size := by
  unfold World.var? at h
  simp only [hg, Option.bind_some] at h
  rcases Nat.lt_or_ge g w.heap.size with h' | h'
  · exact h'
  · simp [Array.getElem?_eq_none h'] at h
theorem var_again {P : Program} {w w' : World} {n : String} {g : Nat} {cs : Array Value} (hg : P.globalNamed n = some g) (h : w.var? P n = some cs) (hb : Below w.heap.size w w') : w'.var? P n = some cs := by
  have hlt := var_lt hg h
  unfold World.var? at h ⊢
  simp only [hg, Option.bind_some] at h ⊢
  rw [hb.block g hlt]
  exact h
theorem trodVars_two {H : Type} {enc : TypeId × Value → H} {P : Program} {w : World} {spare : Nat → Bool} {n m : String} {gs : List (DataW H)} {ps : List MemPlace} (h : DataW.TrodVars enc P w spare [n, m] gs ps) : ∃ d e, gs = [d, e] := by
  cases gs with
  | nil => simp [DataW.TrodVars] at h
  | cons d ds =>
    obtain ⟨g, t, cs, fuel, p, q, h1, h2, h3, h4, hs, e⟩ := h
    obtain ⟨_, _, _, _, x, _, rfl, _⟩ := trodVars_one hs
    exact ⟨d, x, rfl⟩
theorem globTypes : ∀ (g : Nat) (t : TypeId), (Tryd.prog.globals[g]?).map (fun (x : Go.Global) => x.type) = some t → t < Tryd.prog.types.size := by
  have h : (Tryd.prog.globals.all fun (x : Go.Global) => decide (x.type < Tryd.prog.types.size)) = true := by kernel_rfl
  intro g t ht
  obtain ⟨x, hx, rfl⟩ := Option.map_eq_some_iff.1 ht
  have := Array.all_eq_true'.1 h x (Array.mem_of_getElem? hx)
  simpa using this
theorem vars_again {H : Type} {enc : TypeId × Value → H} {W W' : World} (hb : Below W.heap.size W W') : ∀ {ns : List String} {gs : List (DataW H)} {ps : List MemPlace},
    DataW.TrodVars enc Tryd.prog W (fun _ => true) ns gs ps → DataW.TrodVars enc Tryd.prog W' (fun b => decide (b < W.heap.size)) ns gs ps
  | [], gs, ps, h => by obtain ⟨rfl, rfl⟩ := trodVars_none h; rfl
  | n :: ns, [], ps, h => by simp [DataW.TrodVars] at h
  | n :: ns, d :: ds, ps, h => by
    obtain ⟨g, t, cs, fuel, p, q, h1, h2, h3, h4, hs, e⟩ := h
    have hA : DataW.TrodAll enc Tryd.prog W 0 (fun _ => true) true [t] [.agg cs] [d] (p ++ []) := ⟨p, [], ⟨fuel, h4⟩, rfl, rfl⟩
    have hB := args_again (W' := W') (by intro x hx; rw [List.mem_singleton.1 hx]; exact globTypes g t h2) hA hb
    obtain ⟨p', q', ⟨n', h4'⟩, hq, e'⟩ := hB
    have hq0 : q' = [] := hq
    subst hq0
    simp only [List.append_nil] at e'
    subst e'
    exact ⟨g, t, cs, n', p, q, h1, h2, var_again h1 h3 hb, h4', vars_again hb hs, e⟩
end Go.Proofs.YtbjndnpdmohjiaaDoor.Num
