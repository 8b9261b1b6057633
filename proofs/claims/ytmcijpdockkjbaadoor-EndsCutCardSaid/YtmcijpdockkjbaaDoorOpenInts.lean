/-
  FROM A READING TO A LIST: an argument that is a slice of integers. Nothing of the program is named here.
-/
import Derived.Test.YtmcijpdockkjbaaDoorInts
import Derived.ChangeSlices
namespace Go.Proofs.YtmcijpdockkjbaaDoor
open Go.ChangeShapes Go.WideShapes Go.ChangeAt Go.RowKit
section
variable {H : Type} {enc : TypeId × Value → H} {P : Program} {w : World} {base : Nat} {held : Bool}
theorem ints_of {t e : TypeId} {fuel : Nat} {v : Value} {y : DataW H × List MemPlace} (ht : P.underlying t = some (.slice e)) (he : P.underlying e = some (.int .i64)) (hc : P.cellsOf e = 1)
    (h : DataW.trod enc P w base (fun _ => true) held fuel t [v] = some y) : ∃ (A : Option Addr) (c : Nat) (xs : List Int), v = .slice A xs.length c ∧ IntsAt w w.heap.size A xs ∧ xs.length ≤ c ∧ c ≤ maxLen ∧ In64 xs := by
  rcases open_ints ht he hc h with ⟨hv, _⟩ | ⟨a, len, cap, zs, hv, _, hl, hm, hz, _, hcell, hwf⟩
  · simp only [List.cons.injEq, and_true] at hv
    exact ⟨none, 0, [], hv, IntsAt.nil, Nat.le_refl _, Nat.zero_le _, In64.nil⟩
  · simp only [List.cons.injEq, and_true] at hv
    simp only [if_true] at hz
    have hlen : (zs.take len).length = len := by rw [List.length_take]; omega
    refine ⟨some a, cap, zs.take len, by rw [hlen]; exact hv, fun k x hx => ?_, by omega, hm, fun x hx => ?_⟩
    · have hk : k < len := by
        rw [List.getElem?_take] at hx
        split at hx
        · assumption
        · cases hx
      have hx' : zs[k]? = some x := by rwa [List.getElem?_take, if_pos hk] at hx
      have hc' := hcell k (by omega)
      rw [List.getD_eq_getElem?_getD, hx'] at hc'
      have hlt := World.block_lt_of_cell? w _ hc'
      rw [block_add] at hlt
      exact ⟨a, rfl, hlt, hc'⟩
    · have := bounds_i64 (hwf x (List.mem_of_mem_take hx))
      exact this
end
end Go.Proofs.YtmcijpdockkjbaaDoor
