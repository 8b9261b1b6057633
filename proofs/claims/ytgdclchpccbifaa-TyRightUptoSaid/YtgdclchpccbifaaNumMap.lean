/-
  A MAP OF NUMBERS TO THEIR PLACES IN A LIST, made by the call. Nothing of the program is named here.
-/
import Derived.Test.YtgdclchpccbifaaKit
import Derived.Test.YtgdclchpccbifaaTyS
import Derived.Maps.OwnSet
import Derived.Maps.OwnOps
import Derived.Maps.Views
namespace Go.Proofs.Ytgdclchpccbifaa
open Go.ChangeShapes Go.WideShapes Go.ChangeAt Go.RowKit
theorem wf64 {x : Int} (h : -9223372036854775808 ≤ x ∧ x ≤ 9223372036854775807) : (Lit.int .i64 x).wf = true := by
  simp [Lit.wf]
  exact ⟨Int.le_trans (by decide) h.1, h.2⟩
/-- Block b is a map of the numbers of vs to their places there, of at most n entries. -/
def NumMap (P : Program) (k e : TypeId) (w : World) (b n : Nat) (vs : List Int) : Prop :=
  ∃ D : DataW Unit, w.ownsMap P k (plainElem P e) b n D ∧ Maps.IsMap D ∧ ∀ x : Int, Maps.has D (.int .i64 x) = decide (x ∈ vs) ∧ (x ∈ vs → ∀ z, D.atKey (.int .i64 x) z = .lit (.int .i64 (vs.idxOf x)))
section
variable {P : Program} {k e t : TypeId} {w w' : World} {b n : Nat} {vs : List Int}
theorem NumMap.made (P : Program) (k e : TypeId) (w : World) : NumMap P k e (w.alloc (.map #[] 0)) w.heap.size 0 [] :=
  ⟨.map [], World.ownsMap_made _ _ _ _, Maps.isMap_empty, fun x => ⟨by simp [Maps.has], fun h => by cases h⟩⟩
theorem NumMap.kept {row : Option Nat} (h : NumMap P k e w b n vs) (hg : w.grownBy w' row) (hne : some b ≠ row) : NumMap P k e w' b n vs := by
  obtain ⟨D, h1, h2⟩ := h
  exact ⟨D, h1.kept hg hne, h2⟩
theorem NumMap.lt (h : NumMap P k e w b n vs) : b < w.heap.size := h.elim fun _ h => h.1.lt
theorem NumMap.block (h : NumMap P k e w b n vs) (hb : w'.heap[b]? = w.heap[b]?) : NumMap P k e w' b n vs := by
  obtain ⟨D, ⟨es, clock, h1, h3⟩, h2⟩ := h
  exact ⟨D, ⟨es, clock, hb.trans h1, h3⟩, h2⟩
theorem NumMap.look_ok (h : NumMap P k e w b n vs) (hk : P.underlying k = some (.int .i64)) (he : P.underlying e = some (.int .i64)) (ht : P.underlying t = some (.map k e)) (hz : (zeroValue e).run P w = .ok (.int .i64 0) w)
    {x : Int} (hx : -9223372036854775808 ≤ x ∧ x ≤ 9223372036854775807) : (Instr.lookup t (.map (some b)) (.int .i64 x) true).run P w = .ok (.tuple #[.int .i64 (place0 vs x), .bool (decide (x ∈ vs))]) w := by
  obtain ⟨D, h1, h2, h3⟩ := h
  obtain ⟨v, ps, hrun, hv⟩ := h1.look_ok (Maps.int_keyed hk) ht hz (plainElem_int (H := Unit) he (wf64 (by omega))) (Maps.keyOf_int_mk hk (wf64 hx))
  rw [(h3 x).1] at hrun
  unfold place0
  by_cases hm : x ∈ vs
  · rw [(h3 x).2 hm] at hv
    obtain ⟨c, rfl, hc, _⟩ := plainElem_int_inv he hv
    have := congrArg Prod.fst hc
    simp only [DataW.lit.injEq, Lit.int.injEq, true_and] at this
    rw [if_pos hm, hrun, this]
  · rw [Maps.atKey_of_not_has (by rw [(h3 x).1]; simpa using hm)] at hv
    obtain ⟨c, rfl, hc, _⟩ := plainElem_int_inv he hv
    have := congrArg Prod.fst hc
    simp only [DataW.lit.injEq, Lit.int.injEq, true_and] at this
    rw [if_neg hm, hrun, ← this]
theorem NumMap.look (h : NumMap P k e w b n vs) (hk : P.underlying k = some (.int .i64)) (he : P.underlying e = some (.int .i64)) (ht : P.underlying t = some (.map k e)) (hz : (zeroValue e).run P w = .ok (.int .i64 0) w)
    {x : Int} (hx : -9223372036854775808 ≤ x ∧ x ≤ 9223372036854775807) : (Instr.lookup t (.map (some b)) (.int .i64 x) false).run P w = .ok (.int .i64 (place0 vs x)) w := by
  obtain ⟨D, h1, h2, h3⟩ := h
  obtain ⟨c, hrun, hc, _⟩ := h1.lookup_int (Maps.int_keyed hk) ht he hz (Maps.keyOf_int_mk hk (wf64 hx))
  unfold place0
  by_cases hm : x ∈ vs
  · rw [(h3 x).2 hm] at hc
    simp only [DataW.lit.injEq, Lit.int.injEq, true_and] at hc
    rw [if_pos hm, hrun, hc]
  · rw [Maps.atKey_of_not_has (by rw [(h3 x).1]; simpa using hm)] at hc
    simp only [DataW.lit.injEq, Lit.int.injEq, true_and] at hc
    rw [if_neg hm, hrun, ← hc]
theorem int_ne_key {x y : Int} (h : x ≠ y) : (Lit.int .i64 x) ≠ (Lit.int .i64 y) := fun e => h (by injection e)
/-- One number more. -/
theorem NumMap.next {D : DataW Unit} {x : Int} (h2 : Maps.IsMap D) (h3 : ∀ x : Int, Maps.has D (.int .i64 x) = decide (x ∈ vs) ∧ (x ∈ vs → ∀ z, D.atKey (.int .i64 x) z = .lit (.int .i64 (vs.idxOf x)))) (hx : x ∉ vs)
    (h : w'.ownsMap P k (plainElem P e) b (n + 1) (D.put (.int .i64 x) (.lit (.int .i64 vs.length)))) : NumMap P k e w' b (n + 1) (vs ++ [x]) := by
  refine ⟨_, h, h2.put _ _, fun y => ?_⟩
  by_cases hy : y = x
  · subst hy
    refine ⟨by rw [Maps.has_put_same h2 (show WideAt.IsKeyLit (.int .i64 y) from trivial)]; simp, fun _ z => ?_⟩
    rw [Maps.atKey_put_same h2 (show WideAt.IsKeyLit (.int .i64 y) from trivial), List.idxOf_append, if_neg hx]; simp
  · refine ⟨?_, fun hm z => ?_⟩
    · rw [Maps.has_put_other (int_ne_key hy), (h3 y).1]; simp [hy]
    · have hm' : y ∈ vs := by simpa [hy] using hm
      rw [Maps.atKey_put_other (int_ne_key hy), (h3 y).2 hm', List.idxOf_append, if_pos hm']
end
end Go.Proofs.Ytgdclchpccbifaa
