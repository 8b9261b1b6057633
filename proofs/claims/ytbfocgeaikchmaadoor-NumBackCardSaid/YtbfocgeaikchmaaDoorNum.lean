/-
  CONTRACTS OF PACKAGE num (Wrap, Box, Unbox, IsInt, Do), by walking the program's own functions.
-/
import Derived.Test.YtbfocgeaikchmaaDoorMath
import Derived.Test.YtbfocgeaikchmaaDoorKit
import Derived.Test.YtbfocgeaikchmaaDoorRows
import Derived.ProofKit
import Derived.Below
import Derived.OpenShut
import Derived.Laws.EntriesVeiled
namespace Go.Proofs.YtbfocgeaikchmaaDoor
open Go.ChangeShapes Go.WideShapes Go.ChangeAt Go.RowKit
set_option linter.unusedVariables false

theorem ret_int {k : IntKind} {a b : Int} (h : a = b) : Ending.returned (.int k a) = .returned (.int k b) := by rw [h]

theorem unbox_any (x : Int) (w : World) (h0 : 0 ≤ x) (h1 : x ≤ 4294967295) :
    Calls Tryd.prog 10 #[.int .u32 x] w fun e w' => e = .returned (.int .i64 (ub x)) ∧ w = w' := by
  go_enter Tryd.func10, Tryd.ntmps10
  go_wp2
  go_ret
  exact ⟨ret_int (ub_of x h0 h1), rfl⟩

theorem wrap_any (x : Int) (w : World) :
    Calls Tryd.prog 12 #[.int .i64 x] w fun e w' => e = .returned (.int .i64 (wi x)) ∧ w = w' := by
  go_enter Tryd.func12, Tryd.ntmps12
  go_wp2_with (go_at_call 10; refine (unbox_any _ _ (by omega) (by omega)).mono ?_; rintro e w' ⟨rfl, rfl⟩)
  go_ret
  exact ⟨ret_int (ub_shl x), rfl⟩

theorem box_any (x : Int) (w : World) :
    Calls Tryd.prog 11 #[.int .i64 x] w fun e w' => e = .returned (.int .u32 (bx x)) ∧ w = w' := by
  go_enter Tryd.func11, Tryd.ntmps11
  go_wp2
  go_ret
  exact ⟨ret_int (bx_of x), rfl⟩

theorem isint_any (x : Int) (w : World) (h0 : 0 ≤ x) (h1 : x ≤ 4294967295) :
    Calls Tryd.prog 13 #[.int .u32 x] w fun e w' => e = .returned (.bool (decide (x % 2 = 1))) ∧ w = w' := by
  have hb := u32_and_one x h0 h1
  go_enter Tryd.func13, Tryd.ntmps13
  go_wp2
  go_ret
  exact ⟨rfl, rfl⟩

theorem ret_two {a b c : Int} (h : a = b) : Ending.returned (.tuple #[.int .i64 a, .int .i64 c]) = .returned (.tuple #[.int .i64 b, .int .i64 c]) := by rw [h]
theorem isint_yes (x : Int) (w : World) (h0 : 0 ≤ x) (h1 : x ≤ 4294967295) (h : x % 2 = 1) :
    Calls Tryd.prog 13 #[.int .u32 x] w fun e w' => e = .returned (.bool true) ∧ w = w' :=
  (isint_any x w h0 h1).mono fun _ _ ⟨he, hw⟩ => ⟨he.trans (by rw [decide_eq_true h]), hw⟩
theorem isint_no (x : Int) (w : World) (h0 : 0 ≤ x) (h1 : x ≤ 4294967295) (h : ¬ x % 2 = 1) :
    Calls Tryd.prog 13 #[.int .u32 x] w fun e w' => e = .returned (.bool false) ∧ w = w' :=
  (isint_any x w h0 h1).mono fun _ _ ⟨he, hw⟩ => ⟨he.trans (by rw [decide_eq_false h]), hw⟩
/-! ### The nine operations -/
theorem truth_yes (w : World) : Calls Tryd.prog 26 #[.bool true] w fun e w' => e = .returned (.int .i64 1) ∧ w = w' := by
  go_enter Tryd.func26, Tryd.ntmps26
  go_wp2
  go_ret
  exact ⟨rfl, rfl⟩
theorem truth_no (w : World) : Calls Tryd.prog 26 #[.bool false] w fun e w' => e = .returned (.int .i64 0) ∧ w = w' := by
  go_enter Tryd.func26, Tryd.ntmps26
  go_wp2
  go_ret
  exact ⟨rfl, rfl⟩
theorem truth_any (b : Bool) (w : World) : Calls Tryd.prog 26 #[.bool b] w fun e w' => e = .returned (.int .i64 (oneIf b)) ∧ w = w' := by
  cases b
  · exact truth_no w
  · exact truth_yes w

theorem op1 (x y : Int) (w : World) (a1 : -1073741824 ≤ x) (a2 : x ≤ 1073741823) (b1 : -1073741824 ≤ y) (b2 : y ≤ 1073741823) :
    Calls Tryd.prog 20 #[.int .i64 x, .int .i64 y] w fun e w' => e = .returned (.int .i64 (x + y)) ∧ w = w' := by
  go_enter Tryd.func20, Tryd.ntmps20
  go_wp2
  go_ret
  exact ⟨rfl, rfl⟩
theorem op2 (x y : Int) (w : World) (a1 : -1073741824 ≤ x) (a2 : x ≤ 1073741823) (b1 : -1073741824 ≤ y) (b2 : y ≤ 1073741823) :
    Calls Tryd.prog 21 #[.int .i64 x, .int .i64 y] w fun e w' => e = .returned (.int .i64 (x - y)) ∧ w = w' := by
  go_enter Tryd.func21, Tryd.ntmps21
  go_wp2
  go_ret
  exact ⟨rfl, rfl⟩
theorem op3 (x y : Int) (w : World) (a1 : -1073741824 ≤ x) (a2 : x ≤ 1073741823) (b1 : -1073741824 ≤ y) (b2 : y ≤ 1073741823) :
    Calls Tryd.prog 22 #[.int .i64 x, .int .i64 y] w fun e w' => e = .returned (.int .i64 (x * y)) ∧ w = w' := by
  go_enter Tryd.func22, Tryd.ntmps22
  go_wp2
  go_ret
  exact ⟨ret_int (mul_in x y a1 a2 b1 b2), rfl⟩
theorem op4 (x y : Int) (w : World) (a1 : -1073741824 ≤ x) (a2 : x ≤ 1073741823) (b1 : -1073741824 ≤ y) (b2 : y ≤ 1073741823) (hy : ¬ y = 0) :
    Calls Tryd.prog 23 #[.int .i64 x, .int .i64 y] w fun e w' => e = .returned (.int .i64 (x.tdiv y)) ∧ w = w' := by
  go_enter Tryd.func23, Tryd.ntmps23
  go_wp2
  go_ret
  exact ⟨ret_int (div_in x y a1 a2), rfl⟩
theorem op5 (x y : Int) (w : World) (a1 : -1073741824 ≤ x) (a2 : x ≤ 1073741823) (b1 : -1073741824 ≤ y) (b2 : y ≤ 1073741823) (hy : ¬ y = 0) :
    Calls Tryd.prog 24 #[.int .i64 x, .int .i64 y] w fun e w' => e = .returned (.int .i64 (x.tmod y)) ∧ w = w' := by
  go_enter Tryd.func24, Tryd.ntmps24
  go_wp2
  go_ret
  exact ⟨rfl, rfl⟩
theorem op6 (x y : Int) (w : World) :
    Calls Tryd.prog 25 #[.int .i64 x, .int .i64 y] w fun e w' => e = .returned (.int .i64 (oneIf (x == y))) ∧ w = w' := by
  go_enter Tryd.func25, Tryd.ntmps25
  go_wp2_with (go_at_call 26; refine (truth_any _ _).mono ?_; rintro e w' ⟨rfl, rfl⟩)
  go_ret
  exact ⟨rfl, rfl⟩
theorem op7 (x y : Int) (w : World) :
    Calls Tryd.prog 27 #[.int .i64 x, .int .i64 y] w fun e w' => e = .returned (.int .i64 (oneIf (x != y))) ∧ w = w' := by
  go_enter Tryd.func27, Tryd.ntmps27
  go_wp2_with (go_at_call 26; refine (truth_any _ _).mono ?_; rintro e w' ⟨rfl, rfl⟩)
  go_ret
  exact ⟨rfl, rfl⟩
theorem op8 (x y : Int) (w : World) :
    Calls Tryd.prog 28 #[.int .i64 x, .int .i64 y] w fun e w' => e = .returned (.int .i64 (oneIf (decide (x < y)))) ∧ w = w' := by
  go_enter Tryd.func28, Tryd.ntmps28
  go_wp2_with (go_at_call 26; refine (truth_any _ _).mono ?_; rintro e w' ⟨rfl, rfl⟩)
  go_ret
  exact ⟨rfl, rfl⟩
theorem op9 (x y : Int) (w : World) :
    Calls Tryd.prog 29 #[.int .i64 x, .int .i64 y] w fun e w' => e = .returned (.int .i64 (oneIf (decide (x ≤ y)))) ∧ w = w' := by
  go_enter Tryd.func29, Tryd.ntmps29
  go_wp2_with (go_at_call 26; refine (truth_any _ _).mono ?_; rintro e w' ⟨rfl, rfl⟩)
  go_ret
  exact ⟨rfl, rfl⟩

theorem ops_any (w : World) : Calls Tryd.prog 18 #[] w fun e w' => e = .returned (.agg #[.nilFunc, .func (.func 20) #[] #[], .func (.func 21) #[] #[], .func (.func 22) #[] #[], .func (.func 23) #[] #[], .func (.func 24) #[] #[], .func (.func 25) #[] #[], .func (.func 27) #[] #[], .func (.func 28) #[] #[], .func (.func 29) #[] #[]]) ∧ Below w.heap.size w w' := by
  go_enter Tryd.func18, Tryd.ntmps18
  go_wp2
  refine bodyPost_ret (v := .agg #[.nilFunc, .func (.func 20) #[] #[], .func (.func 21) #[] #[], .func (.func 22) #[] #[], .func (.func 23) #[] #[], .func (.func 24) #[] #[], .func (.func 25) #[] #[], .func (.func 27) #[] #[], .func (.func 28) #[] #[], .func (.func 29) #[] #[]]) (by simp [results, Tryd.results18, go_sem]) rfl ⟨rfl, ?_⟩
  exact (Below.refl _ _).alloc (Nat.le_refl _) _

theorem idx1 (w : World) : (Instr.index 41 (.agg #[.nilFunc, .func (.func 20) #[] #[], .func (.func 21) #[] #[], .func (.func 22) #[] #[], .func (.func 23) #[] #[], .func (.func 24) #[] #[], .func (.func 25) #[] #[], .func (.func 27) #[] #[], .func (.func 28) #[] #[], .func (.func 29) #[] #[]]) (.int .i64 1)).run Tryd.prog w = .ok (.func (.func 20) #[] #[]) w := by kernel_rfl
theorem idx2 (w : World) : (Instr.index 41 (.agg #[.nilFunc, .func (.func 20) #[] #[], .func (.func 21) #[] #[], .func (.func 22) #[] #[], .func (.func 23) #[] #[], .func (.func 24) #[] #[], .func (.func 25) #[] #[], .func (.func 27) #[] #[], .func (.func 28) #[] #[], .func (.func 29) #[] #[]]) (.int .i64 2)).run Tryd.prog w = .ok (.func (.func 21) #[] #[]) w := by kernel_rfl
theorem idx3 (w : World) : (Instr.index 41 (.agg #[.nilFunc, .func (.func 20) #[] #[], .func (.func 21) #[] #[], .func (.func 22) #[] #[], .func (.func 23) #[] #[], .func (.func 24) #[] #[], .func (.func 25) #[] #[], .func (.func 27) #[] #[], .func (.func 28) #[] #[], .func (.func 29) #[] #[]]) (.int .i64 3)).run Tryd.prog w = .ok (.func (.func 22) #[] #[]) w := by kernel_rfl
theorem idx4 (w : World) : (Instr.index 41 (.agg #[.nilFunc, .func (.func 20) #[] #[], .func (.func 21) #[] #[], .func (.func 22) #[] #[], .func (.func 23) #[] #[], .func (.func 24) #[] #[], .func (.func 25) #[] #[], .func (.func 27) #[] #[], .func (.func 28) #[] #[], .func (.func 29) #[] #[]]) (.int .i64 4)).run Tryd.prog w = .ok (.func (.func 23) #[] #[]) w := by kernel_rfl
theorem idx5 (w : World) : (Instr.index 41 (.agg #[.nilFunc, .func (.func 20) #[] #[], .func (.func 21) #[] #[], .func (.func 22) #[] #[], .func (.func 23) #[] #[], .func (.func 24) #[] #[], .func (.func 25) #[] #[], .func (.func 27) #[] #[], .func (.func 28) #[] #[], .func (.func 29) #[] #[]]) (.int .i64 5)).run Tryd.prog w = .ok (.func (.func 24) #[] #[]) w := by kernel_rfl
theorem idx6 (w : World) : (Instr.index 41 (.agg #[.nilFunc, .func (.func 20) #[] #[], .func (.func 21) #[] #[], .func (.func 22) #[] #[], .func (.func 23) #[] #[], .func (.func 24) #[] #[], .func (.func 25) #[] #[], .func (.func 27) #[] #[], .func (.func 28) #[] #[], .func (.func 29) #[] #[]]) (.int .i64 6)).run Tryd.prog w = .ok (.func (.func 25) #[] #[]) w := by kernel_rfl
theorem idx7 (w : World) : (Instr.index 41 (.agg #[.nilFunc, .func (.func 20) #[] #[], .func (.func 21) #[] #[], .func (.func 22) #[] #[], .func (.func 23) #[] #[], .func (.func 24) #[] #[], .func (.func 25) #[] #[], .func (.func 27) #[] #[], .func (.func 28) #[] #[], .func (.func 29) #[] #[]]) (.int .i64 7)).run Tryd.prog w = .ok (.func (.func 27) #[] #[]) w := by kernel_rfl
theorem idx8 (w : World) : (Instr.index 41 (.agg #[.nilFunc, .func (.func 20) #[] #[], .func (.func 21) #[] #[], .func (.func 22) #[] #[], .func (.func 23) #[] #[], .func (.func 24) #[] #[], .func (.func 25) #[] #[], .func (.func 27) #[] #[], .func (.func 28) #[] #[], .func (.func 29) #[] #[]]) (.int .i64 8)).run Tryd.prog w = .ok (.func (.func 28) #[] #[]) w := by kernel_rfl
theorem idx9 (w : World) : (Instr.index 41 (.agg #[.nilFunc, .func (.func 20) #[] #[], .func (.func 21) #[] #[], .func (.func 22) #[] #[], .func (.func 23) #[] #[], .func (.func 24) #[] #[], .func (.func 25) #[] #[], .func (.func 27) #[] #[], .func (.func 28) #[] #[], .func (.func 29) #[] #[]]) (.int .i64 9)).run Tryd.prog w = .ok (.func (.func 29) #[] #[]) w := by kernel_rfl

set_option maxHeartbeats 400000 in
theorem do_zero (p x y : Int) (w : World) (g1 : 1 ≤ p) (g2 : p ≤ 9) (h0 : wi y = 0) (h4 : ¬ p = 4) (h5 : ¬ p = 5) :
    Calls Tryd.prog 16 #[.int .i64 p, .int .i64 x, .int .i64 y] w fun e w' => e = .returned (.tuple #[.int .i64 (doV p x y), .int .i64 (doE p y)]) ∧ Below w.heap.size w w' := by
  have xl := wi_lo x
  have xh := wi_hi x
  have yl := wi_lo y
  have yh := wi_hi y
  have hp : p = 1 ∨ p = 2 ∨ p = 3 ∨ p = 4 ∨ p = 5 ∨ p = 6 ∨ p = 7 ∨ p = 8 ∨ p = 9 := by omega
  have e := doE_zero p y (by omega) (by omega) h0 h4 h5
  rw [doV_ok p x y e, e, h0]
  clear e
  have i1 := idx1
  have i2 := idx2
  have i3 := idx3
  have i4 := idx4
  have i5 := idx5
  have i6 := idx6
  have i7 := idx7
  have i8 := idx8
  have i9 := idx9
  rcases hp with rfl | rfl | rfl | rfl | rfl | rfl | rfl | rfl | rfl
  all_goals first | (exfalso; omega) | skip
  all_goals
    clear h4 h5 g1 g2
    go_enter Tryd.func16, Tryd.ntmps16
    go_wp2_with (first
    | (go_at_call 12; refine (wrap_any _ _).mono ?_; rintro e w' ⟨rfl, rfl⟩)
    | (go_at_call 18; refine (ops_any _).mono ?_; rintro e w' ⟨rfl, hg⟩)
    | (go_at_call 20; refine (op1 _ _ _ (by assumption) (by assumption) (by omega) (by omega)).mono ?_; rintro e w' ⟨rfl, rfl⟩)
    | (go_at_call 21; refine (op2 _ _ _ (by assumption) (by assumption) (by omega) (by omega)).mono ?_; rintro e w' ⟨rfl, rfl⟩)
    | (go_at_call 22; refine (op3 _ _ _ (by assumption) (by assumption) (by omega) (by omega)).mono ?_; rintro e w' ⟨rfl, rfl⟩)
    | (go_at_call 23; refine (op4 _ _ _ (by assumption) (by assumption) (by omega) (by omega) (by assumption)).mono ?_; rintro e w' ⟨rfl, rfl⟩)
    | (go_at_call 24; refine (op5 _ _ _ (by assumption) (by assumption) (by omega) (by omega) (by assumption)).mono ?_; rintro e w' ⟨rfl, rfl⟩)
    | (go_at_call 25; refine (op6 _ _ _).mono ?_; rintro e w' ⟨rfl, rfl⟩)
    | (go_at_call 27; refine (op7 _ _ _).mono ?_; rintro e w' ⟨rfl, rfl⟩)
    | (go_at_call 28; refine (op8 _ _ _).mono ?_; rintro e w' ⟨rfl, rfl⟩)
    | (go_at_call 29; refine (op9 _ _ _).mono ?_; rintro e w' ⟨rfl, rfl⟩))
    go_ret2
    first | exact ⟨rfl, hg⟩ | exact ⟨ret_two (by simp [rawZ]), hg⟩

set_option maxHeartbeats 400000 in
theorem do_in (p x y : Int) (w : World) (g1 : 1 ≤ p) (g2 : p ≤ 9) (h0 : ¬ wi y = 0) :
    Calls Tryd.prog 16 #[.int .i64 p, .int .i64 x, .int .i64 y] w fun e w' => e = .returned (.tuple #[.int .i64 (doV p x y), .int .i64 (doE p y)]) ∧ Below w.heap.size w w' := by
  have xl := wi_lo x
  have xh := wi_hi x
  have yl := wi_lo y
  have yh := wi_hi y
  have hp : p = 1 ∨ p = 2 ∨ p = 3 ∨ p = 4 ∨ p = 5 ∨ p = 6 ∨ p = 7 ∨ p = 8 ∨ p = 9 := by omega
  have e := doE_in p y (by omega) (by omega) h0
  rw [doV_ok p x y e, e]
  clear e
  have i1 := idx1
  have i2 := idx2
  have i3 := idx3
  have i4 := idx4
  have i5 := idx5
  have i6 := idx6
  have i7 := idx7
  have i8 := idx8
  have i9 := idx9
  rcases hp with rfl | rfl | rfl | rfl | rfl | rfl | rfl | rfl | rfl
  all_goals
    go_enter Tryd.func16, Tryd.ntmps16
    go_wp2_with (first
    | (go_at_call 12; refine (wrap_any _ _).mono ?_; rintro e w' ⟨rfl, rfl⟩)
    | (go_at_call 18; refine (ops_any _).mono ?_; rintro e w' ⟨rfl, hg⟩)
    | (go_at_call 20; refine (op1 _ _ _ (by assumption) (by assumption) (by omega) (by omega)).mono ?_; rintro e w' ⟨rfl, rfl⟩)
    | (go_at_call 21; refine (op2 _ _ _ (by assumption) (by assumption) (by omega) (by omega)).mono ?_; rintro e w' ⟨rfl, rfl⟩)
    | (go_at_call 22; refine (op3 _ _ _ (by assumption) (by assumption) (by omega) (by omega)).mono ?_; rintro e w' ⟨rfl, rfl⟩)
    | (go_at_call 23; refine (op4 _ _ _ (by assumption) (by assumption) (by omega) (by omega) (by assumption)).mono ?_; rintro e w' ⟨rfl, rfl⟩)
    | (go_at_call 24; refine (op5 _ _ _ (by assumption) (by assumption) (by omega) (by omega) (by assumption)).mono ?_; rintro e w' ⟨rfl, rfl⟩)
    | (go_at_call 25; refine (op6 _ _ _).mono ?_; rintro e w' ⟨rfl, rfl⟩)
    | (go_at_call 27; refine (op7 _ _ _).mono ?_; rintro e w' ⟨rfl, rfl⟩)
    | (go_at_call 28; refine (op8 _ _ _).mono ?_; rintro e w' ⟨rfl, rfl⟩)
    | (go_at_call 29; refine (op9 _ _ _).mono ?_; rintro e w' ⟨rfl, rfl⟩))
    go_ret2
    exact ⟨rfl, hg⟩

theorem do_any (p x y : Int) (w : World) :
    Calls Tryd.prog 16 #[.int .i64 p, .int .i64 x, .int .i64 y] w fun e w' => e = .returned (.tuple #[.int .i64 (doV p x y), .int .i64 (doE p y)]) ∧ Below w.heap.size w w' := by
  by_cases h1 : p < 1
  · have e : doE p y = 28 := by unfold doE; rw [if_pos h1]
    have v : doV p x y = 0 := by unfold doV; rw [e]; rfl
    rw [e, v]
    clear e v
    go_enter Tryd.func16, Tryd.ntmps16
    go_wp2_with fail
    go_ret2
    exact ⟨rfl, Below.refl _ _⟩
  by_cases h2 : 9 < p
  · have e : doE p y = 28 := by unfold doE; rw [if_neg h1, if_pos h2]
    have v : doV p x y = 0 := by unfold doV; rw [e]; rfl
    rw [e, v]
    clear e v
    go_enter Tryd.func16, Tryd.ntmps16
    go_wp2_with fail
    go_ret2
    exact ⟨rfl, Below.refl _ _⟩
  by_cases h0 : wi y = 0
  · by_cases h4 : p = 4
    · subst h4
      rw [doV_no 4 x y (by rw [doE_4 y h0]; omega), doE_4 y h0]
      go_enter Tryd.func16, Tryd.ntmps16
      go_wp2_with (go_at_call 12; refine (wrap_any _ _).mono ?_; rintro e w' ⟨rfl, rfl⟩)
      go_ret2
      exact ⟨rfl, Below.refl _ _⟩
    by_cases h5 : p = 5
    · subst h5
      rw [doV_no 5 x y (by rw [doE_5 y h0]; omega), doE_5 y h0]
      go_enter Tryd.func16, Tryd.ntmps16
      go_wp2_with (go_at_call 12; refine (wrap_any _ _).mono ?_; rintro e w' ⟨rfl, rfl⟩)
      go_ret2
      exact ⟨rfl, Below.refl _ _⟩
    exact do_zero p x y w (by omega) (by omega) h0 h4 h5
  · exact do_in p x y w (by omega) (by omega) h0

end Go.Proofs.YtbfocgeaikchmaaDoor
