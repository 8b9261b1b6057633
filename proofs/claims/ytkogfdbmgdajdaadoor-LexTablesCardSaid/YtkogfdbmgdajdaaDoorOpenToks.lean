/-
  FROM A READING TO A LIST: an argument that is a slice of tokens.
-/
import Derived.Test.YtkogfdbmgdajdaaDoorLexF
import Derived.ChangeSlices
import Derived.Deep.Slices
import Derived.Deep.Fields
namespace Go.Proofs.YtkogfdbmgdajdaaDoor
open Go.ChangeShapes Go.WideShapes Go.ChangeAt Go.RowKit Go.Deep
theorem list_of {α : Type} (Q : Nat → α → Prop) : ∀ n, (∀ i, i < n → ∃ t, Q i t) → ∃ l : List α, l.length = n ∧ ∀ i t, l[i]? = some t → Q i t
  | 0, _ => ⟨[], rfl, fun i t h => by simp at h⟩
  | n + 1, h => by
    obtain ⟨l, hl, hq⟩ := list_of Q n fun i hi => h i (by omega)
    obtain ⟨t, ht⟩ := h n (by omega)
    refine ⟨l ++ [t], by simp [hl], fun i u hu => ?_⟩
    by_cases hi : i < n
    · rw [List.getElem?_append_left (by omega)] at hu; exact hq i u hu
    · have hlt := (List.getElem?_eq_some_iff.1 hu).1
      simp at hlt
      obtain rfl : i = n := by omega
      rw [List.getElem?_append_right (by omega), hl, Nat.sub_self] at hu
      simp at hu; subst hu; exact ht
theorem four {α : Type} (l : List α) (h : l.length = 4) : ∃ a b c d, l = [a, b, c, d] := by
  match l, h with
  | [a, b, c, d], _ => exact ⟨a, b, c, d, rfl⟩
section
variable {H : Type} {enc : TypeId × Value → H} {P : Program} {w : World} {base : Nat} {sp : Nat → Bool} {held : Bool}
theorem weights_of {e : TypeId} {D : Nat → DataW H} {n i : Nat} (h : (DataW.weightsAll P e ((List.range n).map D)).all (· ≤ reachBytes) = true) (hi : i < n) : ((D i).weights P e).all (· ≤ reachBytes) = true := by
  have key : ∀ (l : List (DataW H)) (d : DataW H), d ∈ l → (DataW.weightsAll P e l).all (· ≤ reachBytes) = true → (d.weights P e).all (· ≤ reachBytes) = true := by
    intro l
    induction l with
    | nil => intro d hd; cases hd
    | cons x l ih =>
      intro d hd hw
      simp only [DataW.weightsAll, List.all_append, Bool.and_eq_true] at hw
      rcases List.mem_cons.1 hd with rfl | hd
      · exact hw.1
      · exact ih d hd hw.2
  exact key _ _ (List.mem_map.2 ⟨i, List.mem_range.2 hi, rfl⟩) h
theorem toks_of {t e : TypeId} {f0 f1 f2 f3 : Field} {fuel : Nat} {v : Value} {y : DataW H × List MemPlace} (ht : P.underlying t = some (.slice e)) (he : P.underlying e = some (.struct #[f0, f1, f2, f3])) (hone : oneCellFields P #[f0, f1, f2, f3] = true) (hC : P.cellsOf e = 4)
    (u0 : P.underlying f0.type = some (.int .i64)) (u1 : P.underlying f1.type = some (.int .i64)) (u2 : P.underlying f2.type = some .string) (u3 : P.underlying f3.type = some (.int .i64))
    (h : DataW.trod enc P w base (fun _ => true) held fuel t [v] = some y) (hz : (y.1.weights P t).all (· ≤ reachBytes) = true) :
    ∃ (A : Option Addr) (c : Nat) (l : List Tk), v = .slice A l.length c ∧ ToksAt w w.heap.size A l ∧ l.length ≤ c ∧ c ≤ maxLen ∧ (∀ t ∈ l, t.text.size ≤ reachBytes) ∧ l.length * P.bytesOf e ≤ reachBytes := by
  rcases open_slice ht h with ⟨hv, _⟩ | ⟨a, len, cap, m, n, D, Pl, hcs, hb, hl, hm, hmm, hx, hi⟩
  · simp only [List.cons.injEq, and_true] at hv
    exact ⟨none, 0, [], hv, ToksAt.nil, Nat.le_refl _, Nat.zero_le _, (fun t ht => by cases ht), by simp⟩
  · simp only [List.cons.injEq, and_true] at hcs
    simp only [if_true] at hmm
    have hy : y.1 = .slice ((List.range len).map D) ((List.range (m - len)).map fun j => D (len + j)) := by rw [hx]
    rw [hy] at hz
    simp only [DataW.weights, ht, List.all_cons, List.all_append, Bool.and_eq_true, decide_eq_true_eq, List.length_map, List.length_range] at hz
    obtain ⟨hz0, hz1, _⟩ := hz
    obtain ⟨l, hll, hq⟩ := list_of (fun i t => (∀ j u, j < 4 → (tkV t)[j]? = some u → w.cell? (a.add (i * 4 + j)) = some u) ∧ t.text.size ≤ reachBytes) len fun i hlt => by
      obtain ⟨cs, hc, htr⟩ := hi i (by omega)
      rw [hC] at hc
      obtain ⟨_, hcl, hat⟩ := World.cells?_some hc
      obtain ⟨ys, n', _, hyy, _, hyl, hf⟩ := DataW.trod_struct he htr
      have hD : D i = .agg (ys.map (·.1)) := congrArg Prod.fst hyy
      have hw := weights_of hz1 hlt
      obtain ⟨y0, y1, y2, y3, rfl⟩ := four ys hyl
      obtain ⟨c0, c1, c2, c3, rfl⟩ := four cs hcl
      obtain ⟨o0, k0⟩ := hone_of hone 0 f0 rfl
      obtain ⟨o1, k1⟩ := hone_of hone 1 f1 rfl
      obtain ⟨o2, k2⟩ := hone_of hone 2 f2 rfl
      obtain ⟨o3, k3⟩ := hone_of hone 3 f3 rfl
      have g0 := hf 0 f0 rfl
      have g1 := hf 1 f1 rfl
      have g2 := hf 2 f2 rfl
      have g3 := hf 3 f3 rfl
      rw [o0, k0] at g0; rw [o1, k1] at g1; rw [o2, k2] at g2; rw [o3, k3] at g3
      simp only [List.drop_zero, List.drop_succ_cons, List.take_succ_cons, List.take_zero, List.getElem?_cons_zero, List.getElem?_cons_succ] at g0 g1 g2 g3
      obtain ⟨x0, e0, _, _⟩ := DataW.trod_int u0 g0
      obtain ⟨x1, e1, _, _⟩ := DataW.trod_int u1 g1
      obtain ⟨x2, e2, ey, _⟩ := DataW.trod_string u2 g2
      obtain ⟨x3, e3, _, _⟩ := DataW.trod_int u3 g3
      simp only [List.cons.injEq, and_true] at e0 e1 e2 e3
      subst e0; subst e1; subst e2; subst e3
      refine ⟨⟨x0, x1, x2, x3⟩, fun j u hj hu => ?_, ?_⟩
      · have hadd : (a.add (i * 4)).add j = a.add (i * 4 + j) := by
          by_cases h0 : j = 0
          · subst h0; rfl
          · exact add_add' _ _ _ (by omega)
        rw [← hadd, hat j hj, ← hu]
        rfl
      · rw [hD] at hw
        simp only [DataW.weights, he, List.map_cons, List.map_nil, DataW.weightsEach, ey, List.all_append, Bool.and_eq_true] at hw
        have := hw.2.2.1
        simp only [List.all_cons, List.all_nil, Bool.and_true, decide_eq_true_eq, size_toList] at this
        exact this
    refine ⟨some a, cap, l, by rw [hll]; exact hcs, fun k t hk => ?_, by omega, hm, fun t ht => ?_, ?_⟩
    · obtain ⟨hc, _⟩ := hq k t hk
      have h0 := hc 0 _ (by omega) rfl
      have hlt := World.block_lt_of_cell? w _ h0
      rw [block_add] at hlt
      exact ⟨a, rfl, hlt, hc⟩
    · obtain ⟨i, hlt, rfl⟩ := List.getElem_of_mem ht
      exact (hq i _ (List.getElem?_eq_getElem hlt)).2
    · rw [hll]
      refine Nat.le_trans (Nat.mul_le_mul_right _ ?_) hz0
      omega
end
end Go.Proofs.YtkogfdbmgdajdaaDoor
