/-
  CONTRACTS OF THE REFERENCE OF LAYER 1 (package camletref01: Wrap, Do, Box, Unbox, IsInt): it returns the same plain mathematics as package num.
-/
import Derived.Test.YtbfocgeaikchmaaNum
namespace Go.Proofs.Ytbfocgeaikchmaa
open Go.ChangeShapes Go.WideShapes Go.ChangeAt Go.RowKit
set_option linter.unusedVariables false

theorem tmod_lo (x : Int) : -2147483648 < x.tmod 2147483648 := by rw [tmod_if]; split <;> omega
theorem tmod_hi (x : Int) : x.tmod 2147483648 < 2147483648 := by rw [tmod_if]; split <;> omega

theorem rwrap_any (x : Int) (w : World) :
    Calls Try.prog 8 #[.int .i64 x] w fun e w' => e = .returned (.int .i64 (wi x)) ∧ w = w' := by
  have l := tmod_lo x
  have h := tmod_hi x
  go_enter Try.func8, Try.ntmps8
  go_wp2
  all_goals go_ret
  all_goals refine ⟨ret_int ?_, rfl⟩
  all_goals (have e := tmod_if x 2147483648; unfold wi; split at e <;> omega)

theorem runbox_any (x : Int) (w : World) (h0 : 0 ≤ x) (h1 : x ≤ 4294967295) :
    Calls Try.prog 15 #[.int .u32 x] w fun e w' => e = .returned (.int .i64 (ub x)) ∧ w = w' := by
  go_enter Try.func15, Try.ntmps15
  go_wp2_with (go_at_call 8; refine (rwrap_any _ _).mono ?_; rintro e w' ⟨rfl, rfl⟩)
  go_ret
  exact ⟨ret_int (ub_half x h0 h1), rfl⟩

theorem rbox_any (x : Int) (w : World) :
    Calls Try.prog 13 #[.int .i64 x] w fun e w' => e = .returned (.int .u32 (bx x)) ∧ w = w' := by
  have l := wi_lo x
  have h := wi_hi x
  go_enter Try.func13, Try.ntmps13
  go_wp2_with (go_at_call 8; refine (rwrap_any _ _).mono ?_; rintro e w' ⟨rfl, rfl⟩)
  go_ret
  exact ⟨rfl, rfl⟩

theorem risint_any (x : Int) (w : World) (h0 : 0 ≤ x) (h1 : x ≤ 4294967295) :
    Calls Try.prog 17 #[.int .u32 x] w fun e w' => e = .returned (.bool (decide (x % 2 = 1))) ∧ w = w' := by
  go_enter Try.func17, Try.ntmps17
  go_wp2
  go_ret
  exact ⟨rfl, rfl⟩

theorem rtruth_yes (w : World) : Calls Try.prog 19 #[.bool true] w fun e w' => e = .returned (.int .i64 1) ∧ w = w' := by
  go_enter Try.func19, Try.ntmps19
  go_wp2
  go_ret
  exact ⟨rfl, rfl⟩
theorem rtruth_no (w : World) : Calls Try.prog 19 #[.bool false] w fun e w' => e = .returned (.int .i64 0) ∧ w = w' := by
  go_enter Try.func19, Try.ntmps19
  go_wp2
  go_ret
  exact ⟨rfl, rfl⟩
theorem rtruth_any (b : Bool) (w : World) : Calls Try.prog 19 #[.bool b] w fun e w' => e = .returned (.int .i64 (oneIf b)) ∧ w = w' := by
  cases b
  · exact rtruth_no w
  · exact rtruth_yes w

theorem rdo_in (p x y : Int) (w : World) (g1 : 1 ≤ p) (g2 : p ≤ 9) (h0 : doE p y = 0) :
    Calls Try.prog 11 #[.int .i64 p, .int .i64 x, .int .i64 y] w fun e w' => e = .returned (.tuple #[.int .i64 (doV p x y), .int .i64 (doE p y)]) ∧ w = w' := by
  have xl := wi_lo x
  have xh := wi_hi x
  have yl := wi_lo y
  have yh := wi_hi y
  have em := mul_in (wi x) (wi y) xl xh yl yh
  have ed := div_in (wi x) (wi y) xl xh
  rw [doV_ok p x y h0, h0]
  have hp : p = 1 ∨ p = 2 ∨ p = 3 ∨ p = 4 ∨ p = 5 ∨ p = 6 ∨ p = 7 ∨ p = 8 ∨ p = 9 := by omega
  have h45 : p = 4 ∨ p = 5 → ¬ wi y = 0 := by
    intro hp hz
    rcases hp with rfl | rfl
    · rw [doE_4 y hz] at h0; omega
    · rw [doE_5 y hz] at h0; omega
  rcases hp with rfl | rfl | rfl | rfl | rfl | rfl | rfl | rfl | rfl
  case' inr.inr.inr.inl => have hz := h45 (Or.inl rfl)
  case' inr.inr.inr.inr.inl => have hz := h45 (Or.inr rfl)
  all_goals
    clear h45 h0 g1 g2
    go_enter Try.func11, Try.ntmps11
    go_wp2_with (first
      | (go_at_call 8; refine (rwrap_any _ _).mono ?_; rintro e w' ⟨rfl, rfl⟩)
      | (go_at_call 19; refine (rtruth_any _ _).mono ?_; rintro e w' ⟨rfl, rfl⟩))
    go_ret2
    first | exact ⟨rfl, rfl⟩ | exact ⟨ret_two (by simp [rawZ, wi_oneIf]), rfl⟩
theorem rdo_any (p x y : Int) (w : World) :
    Calls Try.prog 11 #[.int .i64 p, .int .i64 x, .int .i64 y] w fun e w' => e = .returned (.tuple #[.int .i64 (doV p x y), .int .i64 (doE p y)]) ∧ w = w' := by
  by_cases h1 : p < 1
  · have e : doE p y = 28 := by unfold doE; rw [if_pos h1]
    have v : doV p x y = 0 := by unfold doV; rw [e]; rfl
    rw [e, v]
    clear e v
    go_enter Try.func11, Try.ntmps11
    go_wp2_with (go_at_call 8; refine (rwrap_any _ _).mono ?_; rintro e w' ⟨rfl, rfl⟩)
    go_ret2
    exact ⟨rfl, rfl⟩
  by_cases h2 : 9 < p
  · have e : doE p y = 28 := by unfold doE; rw [if_neg h1, if_pos h2]
    have v : doV p x y = 0 := by unfold doV; rw [e]; rfl
    rw [e, v]
    clear e v
    go_enter Try.func11, Try.ntmps11
    go_wp2_with (go_at_call 8; refine (rwrap_any _ _).mono ?_; rintro e w' ⟨rfl, rfl⟩)
    go_ret2
    exact ⟨rfl, rfl⟩
  by_cases h0 : wi y = 0
  · by_cases h4 : p = 4
    · subst h4
      rw [doV_no 4 x y (by rw [doE_4 y h0]; omega), doE_4 y h0]
      go_enter Try.func11, Try.ntmps11
      go_wp2_with (go_at_call 8; refine (rwrap_any _ _).mono ?_; rintro e w' ⟨rfl, rfl⟩)
      go_ret2
      exact ⟨rfl, rfl⟩
    by_cases h5 : p = 5
    · subst h5
      rw [doV_no 5 x y (by rw [doE_5 y h0]; omega), doE_5 y h0]
      go_enter Try.func11, Try.ntmps11
      go_wp2_with (go_at_call 8; refine (rwrap_any _ _).mono ?_; rintro e w' ⟨rfl, rfl⟩)
      go_ret2
      exact ⟨rfl, rfl⟩
    exact rdo_in p x y w (by omega) (by omega) (doE_zero p y (by omega) (by omega) h0 h4 h5)
  · exact rdo_in p x y w (by omega) (by omega) (doE_in p y (by omega) (by omega) h0)
end Go.Proofs.Ytbfocgeaikchmaa
