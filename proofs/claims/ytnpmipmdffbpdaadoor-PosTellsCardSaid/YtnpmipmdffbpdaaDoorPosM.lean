/-
  LINES AND COLUMNS, plain: over 'nl k' (the byte at k is 10): ln k: the line of offset k; fs k: the first offset of that line. Nothing of the program is named here.
-/
import Derived.Laws.OwnMore
namespace Go.Proofs.YtnpmipmdffbpdaaDoor
/-- A 64-bit int. -/
def R64 (x : Int) : Prop := -9223372036854775808 ≤ x ∧ x ≤ 9223372036854775807
variable (nl : Nat → Bool)
def ln : Nat → Nat
  | 0 => 1
  | k + 1 => if nl k then ln k + 1 else ln k
def fs : Nat → Nat
  | 0 => 0
  | k + 1 => if nl k then k + 1 else fs k
/-- The line ends below k. -/
def nls (k : Nat) : List Nat := (List.range k).filter nl
variable {nl}
theorem ln_yes {k : Nat} (h : nl k = true) : ln nl (k + 1) = ln nl k + 1 := by simp [ln, h]
theorem ln_no {k : Nat} (h : nl k = false) : ln nl (k + 1) = ln nl k := by simp [ln, h]
theorem fs_yes {k : Nat} (h : nl k = true) : fs nl (k + 1) = k + 1 := by simp [fs, h]
theorem fs_no {k : Nat} (h : nl k = false) : fs nl (k + 1) = fs nl k := by simp [fs, h]
theorem nls_yes {k : Nat} (h : nl k = true) : nls nl (k + 1) = nls nl k ++ [k] := by simp [nls, List.range_succ, h]
theorem nls_no {k : Nat} (h : nl k = false) : nls nl (k + 1) = nls nl k := by simp [nls, List.range_succ, h]
theorem fs_le (k : Nat) : fs nl k ≤ k := by
  induction k with
  | zero => simp [fs]
  | succ k ih => unfold fs; split <;> omega
theorem ln_pos (k : Nat) : 1 ≤ ln nl k := by
  induction k with
  | zero => simp [ln]
  | succ k ih => unfold ln; split <;> omega
theorem ln_le (k : Nat) : ln nl k ≤ k + 1 := by
  induction k with
  | zero => simp [ln]
  | succ k ih => unfold ln; split <;> omega
theorem nls_len (k : Nat) : (nls nl k).length ≤ k := by
  have := List.length_filter_le nl (List.range k); simpa [nls] using this
/-- An offset within a line's bounds lies in that line. -/
theorem in_line {e a : Nat} (h1 : fs nl e ≤ a) (h2 : a ≤ e) : ln nl a = ln nl e ∧ fs nl a = fs nl e := by
  induction e with
  | zero => obtain rfl : a = 0 := by omega
            exact ⟨rfl, rfl⟩
  | succ e ih =>
    by_cases ha : a = e + 1
    · subst ha; exact ⟨rfl, rfl⟩
    · cases hn : nl e with
      | true => rw [fs_yes hn] at h1; omega
      | false => rw [fs_no hn] at h1 ⊢; rw [ln_no hn]; exact ih h1 (by omega)
theorem mem_nls {e n : Nat} : e ∈ nls nl n ↔ e < n ∧ nl e = true := by simp [nls]
/-- Each offset lies in a line: at a line end below n, or in the last one. -/
theorem has_line {n a : Nat} (h : a ≤ n) : ∃ e, (e ∈ nls nl n ∨ e = n) ∧ fs nl e ≤ a ∧ a ≤ e := by
  induction n with
  | zero => exact ⟨0, .inr rfl, by simp [fs], h⟩
  | succ n ih =>
    by_cases ha : a = n + 1
    · exact ⟨n + 1, .inr rfl, by have := fs_le (nl := nl) (n + 1); omega, by omega⟩
    · obtain ⟨e, he, h1, h2⟩ := ih (by omega)
      rcases he with he | rfl
      · obtain ⟨x, y⟩ := mem_nls.1 he
        exact ⟨e, .inl (mem_nls.2 ⟨by omega, y⟩), h1, h2⟩
      · cases hn : nl e with
        | true => exact ⟨e, .inl (mem_nls.2 ⟨by omega, hn⟩), h1, h2⟩
        | false => exact ⟨e + 1, .inr rfl, by rw [fs_no hn]; exact h1, by omega⟩
theorem ln_mono {a b : Nat} (h : a ≤ b) : ln nl a ≤ ln nl b := by
  induction b with
  | zero => obtain rfl : a = 0 := by omega
            exact Nat.le_refl _
  | succ b ih =>
    by_cases ha : a = b + 1
    · subst ha; exact Nat.le_refl _
    · have := ih (by omega)
      cases hn : nl b with
      | true => rw [ln_yes hn]; omega
      | false => rw [ln_no hn]; exact this
/-- Of two offsets in one line the first offset of the line is one. -/
theorem fs_of_ln {a b : Nat} (h : a ≤ b) (e : ln nl a = ln nl b) : fs nl a = fs nl b := by
  induction b with
  | zero => obtain rfl : a = 0 := by omega
            rfl
  | succ b ih =>
    by_cases ha : a = b + 1
    · subst ha; rfl
    · cases hn : nl b with
      | true => rw [ln_yes hn] at e; have := ln_mono (nl := nl) (show a ≤ b by omega); omega
      | false => rw [ln_no hn] at e; rw [fs_no hn]; exact ih (by omega) e
/-- THE ORDER. -/
theorem rises {a b : Nat} (h : a < b) : ln nl a < ln nl b ∨ ln nl a = ln nl b ∧ a - fs nl a < b - fs nl b := by
  have m := ln_mono (nl := nl) (show a ≤ b by omega)
  by_cases e : ln nl a = ln nl b
  · have f := fs_of_ln (show a ≤ b by omega) e
    have := fs_le (nl := nl) a
    exact .inr ⟨e, by omega⟩
  · exact .inl (by omega)
theorem spot_inj {a b : Nat} (h1 : ln nl a = ln nl b) (h2 : a - fs nl a = b - fs nl b) : a = b := by
  rcases Nat.lt_trichotomy a b with h | h | h
  · rcases rises (nl := nl) h with h | h <;> omega
  · exact h
  · rcases rises (nl := nl) h with h | h <;> omega
variable (nl)
/-- The column. -/
def cl (k : Nat) : Nat := k - fs nl k + 1
/-- THE SPOT (x, y) IS OFFSET k's. -/
def SpotAt (n : Nat) (x y : Int) (k : Nat) : Prop := k ≤ n ∧ x = ln nl k ∧ y = cl nl k
variable {nl}
theorem SpotAt.one {n : Nat} {x y : Int} {j k : Nat} (h : SpotAt nl n x y j) (h' : SpotAt nl n x y k) : j = k :=
  spot_inj (nl := nl) (by have := h.2.1; have := h'.2.1; omega) (by have := h.2.2; have := h'.2.2; unfold cl at *; omega)
theorem cl_le (k : Nat) : 1 ≤ cl nl k ∧ cl nl k ≤ k + 1 := by unfold cl; omega
theorem cl_yes {k : Nat} (h : nl k = true) : cl nl (k + 1) = 1 := by unfold cl; rw [fs_yes h]; omega
theorem cl_no {k : Nat} (h : nl k = false) : cl nl (k + 1) = cl nl k + 1 := by unfold cl; rw [fs_no h]; have := fs_le (nl := nl) k; omega
end Go.Proofs.YtnpmipmdffbpdaaDoor
