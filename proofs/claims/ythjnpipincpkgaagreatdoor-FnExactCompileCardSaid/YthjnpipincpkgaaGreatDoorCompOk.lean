/-
  Facts on compiling by plain lists: what is compiled of a description without a violation is a valid schema; each message's shape, each field of it. For any program.
-/
import Derived.Test.YthjnpipincpkgaaGreatDoorCompRight
namespace Go.Proofs.YthjnpipincpkgaaGreatDoor.Num
set_option linter.unusedVariables false
set_option linter.unusedSimpArgs false

theorem putR_cons (g : RF) (l : List RF) (f : RF) : putR (g :: l) f = if g.1 < f.1 then g :: putR l f else f :: g :: l := by
  unfold putR
  by_cases h : g.1 < f.1
  · rw [if_pos h, List.takeWhile_cons_of_pos (by simpa using h), List.dropWhile_cons_of_pos (by simpa using h), List.cons_append]
  · rw [if_neg h, List.takeWhile_cons_of_neg (by simpa using h), List.dropWhile_cons_of_neg (by simpa using h), List.nil_append]
theorem putR_mem : ∀ (l : List RF) (f x : RF), x ∈ putR l f ↔ x = f ∨ x ∈ l
  | [], f, x => by simp [putR]
  | g :: l, f, x => by
    have ih := putR_mem l f x
    rw [putR_cons]
    split
    · rw [List.mem_cons, ih, List.mem_cons]
      constructor
      · rintro (h | h | h)
        · exact .inr (.inl h)
        · exact .inl h
        · exact .inr (.inr h)
      · rintro (h | h | h)
        · exact .inr (.inl h)
        · exact .inl h
        · exact .inr (.inr h)
    · rw [List.mem_cons]
theorem putR_asc : ∀ (l : List RF) (f : RF), (l.Pairwise fun a b => a.1 < b.1) → (∀ g ∈ l, g.1 ≠ f.1) → (putR l f).Pairwise fun a b => a.1 < b.1
  | [], f, _, _ => by simp [putR]
  | g :: l, f, hp, hn => by
    have hp' := hp
    rw [List.pairwise_cons] at hp
    have ih := putR_asc l f hp.2 fun x hx => hn x (List.mem_cons_of_mem _ hx)
    rw [putR_cons]
    split
    · rename_i h
      refine List.pairwise_cons.2 ⟨fun x hx => ?_, ih⟩
      rcases (putR_mem l f x).1 hx with rfl | hx
      · exact h
      · exact hp.1 x hx
    · rename_i h
      have hne := hn g List.mem_cons_self
      refine List.pairwise_cons.2 ⟨fun x hx => ?_, hp'⟩
      rcases List.mem_cons.1 hx with rfl | hx
      · omega
      · have := hp.1 x hx; omega
theorem foldPut_mem (r : List RM) (x : RF) : ∀ (l acc : List RF), x ∈ l.foldl (fun acc f => putR acc (compF r f)) acc ↔ x ∈ acc ∨ ∃ f ∈ l, x = compF r f
  | [], acc => by simp
  | f :: l, acc => by
    rw [List.foldl_cons, foldPut_mem r x l, putR_mem]
    constructor
    · rintro ((h | h) | ⟨g, hg, h⟩)
      · exact .inr ⟨f, List.mem_cons_self, h⟩
      · exact .inl h
      · exact .inr ⟨g, List.mem_cons_of_mem _ hg, h⟩
    · rintro (h | ⟨g, hg, h⟩)
      · exact .inl (.inr h)
      · rcases List.mem_cons.1 hg with rfl | hg
        · exact .inl (.inl h)
        · exact .inr ⟨g, hg, h⟩
theorem compFs_mem (r : List RM) (l : List RF) (x : RF) : x ∈ compFs r l ↔ ∃ f ∈ l, x = compF r f := by
  unfold compFs; rw [foldPut_mem]; simp
theorem foldPut_sorted (r : List RM) : ∀ (l acc : List RF), (acc.Pairwise fun a b => a.1 < b.1) → (∀ g ∈ acc, ∀ f ∈ l, g.1 ≠ f.1) → (l.Pairwise fun a b => a.1 ≠ b.1) → (l.foldl (fun acc f => putR acc (compF r f)) acc).Pairwise fun a b => a.1 < b.1
  | [], acc, h, _, _ => h
  | f :: l, acc, h, hn, hp => by
    rw [List.pairwise_cons] at hp
    rw [List.foldl_cons]
    refine foldPut_sorted r l _ (putR_asc acc (compF r f) h fun g hg => hn g hg f List.mem_cons_self) (fun g hg x hx => ?_) hp.2
    rcases (putR_mem acc _ g).1 hg with rfl | hg
    · exact hp.1 x hx
    · exact hn g hg x (List.mem_cons_of_mem _ hx)
theorem compFs_sorted (r : List RM) (l : List RF) (hp : l.Pairwise fun a b => a.1 ≠ b.1) : (compFs r l).Pairwise fun a b => a.1 < b.1 :=
  foldPut_sorted r l [] .nil (fun g hg => by simp at hg) hp
theorem hasId_false {r : List RM} {id : Int} {n : Nat} (h : hasId r id n = false) (j : Nat) (hj : j < r.length) (hn : j < n) : r[j].1 ≠ id := fun e => by
  rw [hasId_yes hj hn e] at h; cases h
theorem hasId_true {r : List RM} {id : Int} {n : Nat} (h : hasId r id n = true) : ∃ (j : Nat) (hj : j < r.length), r[j].1 = id := by
  refine Classical.byContradiction fun e => ?_
  rw [hasId_no fun j hj _ he => e ⟨j, hj, he⟩] at h
  cases h
theorem hasNum_false {l : List RF} {x : Int} (h : hasNum l x = false) (j : Nat) (hj : j < l.length) : l[j].1 ≠ x := fun e => by
  rw [hasNum_yes hj e] at h; cases h
theorem AllB.ids {r : List RM} (h : AllB r r.length) : r.Pairwise fun m n => m.1 ≠ n.1 := by
  rw [List.pairwise_iff_getElem]
  intro i j hi hj hij
  have h1 := (h j hj hj).1
  rw [msgCode_in hj] at h1
  exact hasId_false (msgCode_zero.1 h1).2.1 i hi hij
theorem AllB.nums {r : List RM} (h : AllB r r.length) {m : RM} (hm : m ∈ r) : m.2.Pairwise fun f g => f.1 ≠ g.1 := by
  obtain ⟨k, hk, rfl⟩ := List.getElem_of_mem hm
  rw [List.pairwise_iff_getElem]
  intro i j hi hj hij
  have h1 := (h k hk hk).2 j hj
  rw [fieldCode_in hk hj] at h1
  have h2 := hasNum_false (fieldCode_zero.1 h1).2.1 i (by rw [List.length_take]; omega)
  rwa [List.getElem_take] at h2
theorem AllB.field {r : List RM} (h : AllB r r.length) {m : RM} (hm : m ∈ r) {f : RF} (hf : f ∈ m.2) : fieldOkB r.length (compF r f) = true := by
  obtain ⟨k, hk, rfl⟩ := List.getElem_of_mem hm
  obtain ⟨j, hj, rfl⟩ := List.getElem_of_mem hf
  have h1 := (h k hk hk).2 j hj
  rw [fieldCode_in hk hj] at h1
  obtain ⟨g1, _, g3, g4, g5, g6⟩ := fieldCode_zero.1 h1
  refine fieldOk_to g1 g3 g4 (fun e => ?_) (fun e => ?_)
  · obtain ⟨q, hq, he⟩ := hasId_true (g5 e)
    have hl := rank_lt hq
    have e' : r[k].2[j].2.1 = 8 := e
    show 0 ≤ (if r[k].2[j].2.1 = 8 then (rankR r r[k].2[j].2.2.2.2 : Int) else -1) ∧ (if r[k].2[j].2.1 = 8 then (rankR r r[k].2[j].2.2.2.2 : Int) else -1) ≤ (r.length : Int) - 1
    rw [if_pos e', ← he]
    omega
  · have e' : ¬ r[k].2[j].2.1 = 8 := e
    show (if r[k].2[j].2.1 = 8 then (rankR r r[k].2[j].2.2.2.2 : Int) else -1) = -1
    rw [if_neg e']
/-- What is compiled of a description without a violation is a valid schema. -/
theorem AllB.schema {r : List RM} (h : AllB r r.length) (h6 : r.length ≤ 6) : SchemaP (compileR r) := by
  have hids := AllB.ids h
  have hat : ∀ i (hi : i < (compileR r).length), ∃ x ∈ r, rankR r x.1 = i ∧ (compileR r)[i] = (x.1, compFs r x.2) := by
    intro i hi
    obtain ⟨x, hx, he⟩ := rank_onto hids i (by rwa [compileR_len] at hi)
    refine ⟨x, hx, he, ?_⟩
    have h1 := compileR_at hids hx
    rw [he, List.getElem?_eq_getElem hi] at h1
    exact Option.some.inj h1
  refine ⟨by rw [compileR_len]; exact h6, fun i hi => ?_⟩
  obtain ⟨x, hx, he, hv⟩ := hat i hi
  rw [hv]
  obtain ⟨k, hk, hxk⟩ := List.getElem_of_mem hx
  have h1 := (h k hk hk).1
  rw [msgCode_in hk, hxk] at h1
  obtain ⟨m1, m2, m3⟩ := msgCode_zero.1 h1
  refine ⟨m1, fun p hp hpi => ?_, by rw [compFs_len]; exact m3, fun q hq => ?_⟩
  · obtain ⟨y, hy, hye, hyv⟩ := hat p hp
    rw [hyv]
    show y.1 < x.1
    refine Classical.byContradiction fun hc => ?_
    have := rank_mono r (show x.1 ≤ y.1 by omega)
    omega
  · have hs := compFs_sorted r x.2 (AllB.nums h hx)
    obtain ⟨f, hf, hfe⟩ := (compFs_mem r x.2 _).1 (List.getElem_mem hq)
    refine ⟨?_, fun p hp hpq => ?_⟩
    · show fieldOkB (compileR r).length (compFs r x.2)[q] = true
      rw [hfe, compileR_len]
      exact AllB.field h hx hf
    · exact asc_get (g := fun f : RF => f.1) hs hq (by omega)
end Go.Proofs.YthjnpipincpkgaaGreatDoor.Num
