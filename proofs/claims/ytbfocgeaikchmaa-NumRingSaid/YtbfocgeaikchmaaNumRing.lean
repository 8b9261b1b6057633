/-
  Proved: for any two ints a and b the law camletlaw01.NumRing returns true and leaves its arguments as they were (P107: wrapping operands first makes no difference to sums, differences and products; quotient times divisor plus remainder is the dividend). Conditions: none beyond the statement's own.
-/
import Derived.Test.YtbfocgeaikchmaaRows
import Derived.WalkKit
import Derived.ProofKit
import Derived.Test.YtbfocgeaikchmaaKnows
import Derived.Test.YtbfocgeaikchmaaRef01
import Derived.OpenShut
namespace Go.Proofs.Ytbfocgeaikchmaa.numRing
open Go.ChangeShapes Go.WideShapes Go.ChangeAt Go.RowKit
set_option linter.unusedVariables false      -- a walk need not use every 'w<i>' (that an integer argument fits its kind)

theorem own : ownKnob Try.prog.godebug = none := by kernel_rfl

theorem do_plain (p : Int) (a b v : Int) (w : World) (hv : doV p a b = v) (he : doE p b = 0) :
    Calls Try.prog 10 #[.int .i64 p, .int .i64 a, .int .i64 b] w fun e w' => e = .returned (.tuple #[.int .i64 v, .int .i64 0]) ∧ Grown w w' :=
  (do_any p a b w).mono fun _ _ ⟨he', hg⟩ => ⟨he'.trans (by rw [hv, he]), hg⟩
theorem do_range (p : Int) (a b : Int) (w : World) (he : doE p b = 2) :
    Calls Try.prog 10 #[.int .i64 p, .int .i64 a, .int .i64 b] w fun e w' => e = .returned (.tuple #[.int .i64 0, .int .i64 2]) ∧ Grown w w' :=
  (do_any p a b w).mono fun _ _ ⟨he', hg⟩ => ⟨he'.trans (by rw [he, doV_no p a b (by omega)]), hg⟩
theorem e_small (p b : Int) (h1 : 1 ≤ p) (h2 : p ≤ 3) : doE p b = 0 := by
  by_cases h : wi b = 0
  · exact doE_zero p b h1 (by omega) h (by omega) (by omega)
  · exact doE_in p b h1 (by omega) h
theorem v1 (a b : Int) : doV 1 a b = wi (wi a + wi b) := doV_ok 1 a b (e_small 1 b (by omega) (by omega))
theorem v2 (a b : Int) : doV 2 a b = wi (wi a - wi b) := doV_ok 2 a b (e_small 2 b (by omega) (by omega))
theorem v3 (a b : Int) : doV 3 a b = wi (wi a * wi b) := doV_ok 3 a b (e_small 3 b (by omega) (by omega))
theorem v4 (a b : Int) (h : ¬ wi b = 0) : doV 4 a b = wi ((wi a).tdiv (wi b)) := doV_ok 4 a b (doE_in 4 b (by omega) (by omega) h)
theorem v5 (a b : Int) (h : ¬ wi b = 0) : doV 5 a b = (wi a).tmod (wi b) := (doV_ok 5 a b (doE_in 5 b (by omega) (by omega) h)).trans (rem_in31 _ _ h (wi_lo b) (wi_hi b))
theorem c1 (a b : Int) (w : World) : Calls Try.prog 10 #[.int .i64 1, .int .i64 a, .int .i64 b] w fun e w' => e = .returned (.tuple #[.int .i64 (wi (wi a + wi b)), .int .i64 0]) ∧ Grown w w' := do_plain 1 a b _ w (v1 a b) (e_small 1 b (by omega) (by omega))
theorem c2 (a b : Int) (w : World) : Calls Try.prog 10 #[.int .i64 2, .int .i64 a, .int .i64 b] w fun e w' => e = .returned (.tuple #[.int .i64 (wi (wi a - wi b)), .int .i64 0]) ∧ Grown w w' := do_plain 2 a b _ w (v2 a b) (e_small 2 b (by omega) (by omega))
theorem c3 (a b : Int) (w : World) : Calls Try.prog 10 #[.int .i64 3, .int .i64 a, .int .i64 b] w fun e w' => e = .returned (.tuple #[.int .i64 (wi (wi a * wi b)), .int .i64 0]) ∧ Grown w w' := do_plain 3 a b _ w (v3 a b) (e_small 3 b (by omega) (by omega))
def quo (a b : Int) : Int := wi ((wi a).tdiv (wi b))
def rst (a b : Int) : Int := (wi a).tmod (wi b)
theorem c4 (a b : Int) (w : World) (h : ¬ wi b = 0) : Calls Try.prog 10 #[.int .i64 4, .int .i64 a, .int .i64 b] w fun e w' => e = .returned (.tuple #[.int .i64 (quo a b), .int .i64 0]) ∧ Grown w w' := do_plain 4 a b _ w (v4 a b h) (doE_in 4 b (by omega) (by omega) h)
theorem c5 (a b : Int) (w : World) (h : ¬ wi b = 0) : Calls Try.prog 10 #[.int .i64 5, .int .i64 a, .int .i64 b] w fun e w' => e = .returned (.tuple #[.int .i64 (rst a b), .int .i64 0]) ∧ Grown w w' := do_plain 5 a b _ w (v5 a b h) (doE_in 5 b (by omega) (by omega) h)
theorem z4 (a b : Int) (w : World) (h : wi b = 0) : Calls Try.prog 10 #[.int .i64 4, .int .i64 a, .int .i64 b] w fun e w' => e = .returned (.tuple #[.int .i64 0, .int .i64 2]) ∧ Grown w w' := do_range 4 a b w (doE_4 b h)
theorem z5 (a b : Int) (w : World) (h : wi b = 0) : Calls Try.prog 10 #[.int .i64 5, .int .i64 a, .int .i64 b] w fun e w' => e = .returned (.tuple #[.int .i64 0, .int .i64 2]) ∧ Grown w w' := do_range 5 a b w (doE_5 b h)
theorem ring_zero (a0 a1 : Int) (w : World) (h0 : wi a1 = 0) :
    Calls Try.prog 6 #[.int .i64 a0, .int .i64 a1] w fun e w' => e = .returned (.bool true) ∧ Grown w w' := by
  have xl := wi_lo a0
  have xh := wi_hi a0
  have yl := wi_lo a1
  have yh := wi_hi a1
  have em := mul_in (wi a0) (wi a1) xl xh yl yh
  have Hn : Hid (wi a1 = 0) := h0
  go_enter Try.func6, Try.ntmps6
  go_wp2_with (first
      | (go_at_call 7; ((with_reducible refine (wrap_any _ _).mono ?_); rintro e w' ⟨rfl, rfl⟩))
      | (go_at_call 10; ((with_reducible refine (c1 _ _ _).mono ?_); rintro e w' ⟨rfl, gc1⟩))
      | (go_at_call 10; ((with_reducible refine (c2 _ _ _).mono ?_); rintro e w' ⟨rfl, gc2⟩))
      | (go_at_call 10; ((with_reducible refine (c3 _ _ _).mono ?_); rintro e w' ⟨rfl, gc3⟩))
      | (go_at_call 10; ((with_reducible refine (z4 _ _ _ (by first | assumption | exact Hn.out)).mono ?_); rintro e w' ⟨rfl, gz4⟩))
      | (go_at_call 10; ((with_reducible refine (z5 _ _ _ (by first | assumption | exact Hn.out)).mono ?_); rintro e w' ⟨rfl, gz5⟩))
      | (go_at_call 9; ((with_reducible refine (knows_any _).mono ?_); rintro e w' ⟨rfl, gk⟩)))
  go_ret
  exact ⟨rfl, grown_trans gc1 (grown_trans gc2 (grown_trans gc3 (grown_trans gz4 (grown_trans gz5 gk))))⟩
set_option maxHeartbeats 400000 in
theorem ring_prz (a0 a1 : Int) (w : World) (h0 : ¬ wi a1 = 0) (rl : -1073741824 ≤ rst a0 a1) (rh : rst a0 a1 ≤ 1073741823) (hy : 0 < wi a1) (k1 : rst a0 a1 < wi a1) (k2 : -rst a0 a1 < wi a1) (k3 : -wi a1 ≤ wi a1) (hr : rst a0 a1 = 0) :
    Calls Try.prog 6 #[.int .i64 a0, .int .i64 a1] w fun e w' => e = .returned (.bool true) ∧ Grown w w' := by
  have xl := wi_lo a0
  have xh := wi_hi a0
  have yl := wi_lo a1
  have yh := wi_hi a1
  have em := mul_in (wi a0) (wi a1) xl xh yl yh
  have hE : (wi (wrap64 (wrap64 (quo a0 a1 * wi a1) + rst a0 a1)) == wi a0) = true := by rw [wi_wrap64_add]; unfold quo rst; rw [ring_q (wi a0) (wi a1) xl xh]; simp
  have hE2 : (wi (wrap64 (wrap64 (quo a0 a1 * wi a1))) == wi a0) = true := by have e := hE; rw [hr, wi_wrap64_add, Int.add_zero] at e; rw [wi_wrap64, wi_wrap64]; exact e
  clear hE
  go_enter Try.func6, Try.ntmps6
  go_wp2_with (first
      | (go_at_call 7; ((with_reducible refine (wrap_any _ _).mono ?_); rintro e w' ⟨rfl, rfl⟩))
      | (go_at_call 10; ((with_reducible refine (c1 _ _ _).mono ?_); rintro e w' ⟨rfl, gc1⟩))
      | (go_at_call 10; ((with_reducible refine (c2 _ _ _).mono ?_); rintro e w' ⟨rfl, gc2⟩))
      | (go_at_call 10; ((with_reducible refine (c3 _ _ _).mono ?_); rintro e w' ⟨rfl, gc3⟩))
      | (go_at_call 10; ((with_reducible refine (c4 _ _ _ (by first | assumption | exact Hn.out)).mono ?_); rintro e w' ⟨rfl, gc4⟩))
      | (go_at_call 10; ((with_reducible refine (c5 _ _ _ (by first | assumption | exact Hn.out)).mono ?_); rintro e w' ⟨rfl, gc5⟩))
      | (go_at_call 9; ((with_reducible refine (knows_any _).mono ?_); rintro e w' ⟨rfl, gk⟩)))
  go_ret
  exact ⟨rfl, grown_trans gc1 (grown_trans gc2 (grown_trans gc3 (grown_trans gc4 (grown_trans gc5 gk))))⟩
set_option maxHeartbeats 400000 in
theorem ring_prp (a0 a1 : Int) (w : World) (h0 : ¬ wi a1 = 0) (rl : -1073741824 ≤ rst a0 a1) (rh : rst a0 a1 ≤ 1073741823) (hy : 0 < wi a1) (k1 : rst a0 a1 < wi a1) (k2 : -rst a0 a1 < wi a1) (k3 : -wi a1 ≤ wi a1) (hr : 0 < rst a0 a1) (hx : 0 ≤ wi a0) :
    Calls Try.prog 6 #[.int .i64 a0, .int .i64 a1] w fun e w' => e = .returned (.bool true) ∧ Grown w w' := by
  have xl := wi_lo a0
  have xh := wi_hi a0
  have yl := wi_lo a1
  have yh := wi_hi a1
  have em := mul_in (wi a0) (wi a1) xl xh yl yh
  have hE : (wi (wrap64 (wrap64 (quo a0 a1 * wi a1) + rst a0 a1)) == wi a0) = true := by rw [wi_wrap64_add]; unfold quo rst; rw [ring_q (wi a0) (wi a1) xl xh]; simp
  go_enter Try.func6, Try.ntmps6
  go_wp2_with (first
      | (go_at_call 7; ((with_reducible refine (wrap_any _ _).mono ?_); rintro e w' ⟨rfl, rfl⟩))
      | (go_at_call 10; ((with_reducible refine (c1 _ _ _).mono ?_); rintro e w' ⟨rfl, gc1⟩))
      | (go_at_call 10; ((with_reducible refine (c2 _ _ _).mono ?_); rintro e w' ⟨rfl, gc2⟩))
      | (go_at_call 10; ((with_reducible refine (c3 _ _ _).mono ?_); rintro e w' ⟨rfl, gc3⟩))
      | (go_at_call 10; ((with_reducible refine (c4 _ _ _ (by first | assumption | exact Hn.out)).mono ?_); rintro e w' ⟨rfl, gc4⟩))
      | (go_at_call 10; ((with_reducible refine (c5 _ _ _ (by first | assumption | exact Hn.out)).mono ?_); rintro e w' ⟨rfl, gc5⟩))
      | (go_at_call 9; ((with_reducible refine (knows_any _).mono ?_); rintro e w' ⟨rfl, gk⟩)))
  go_ret
  exact ⟨rfl, grown_trans gc1 (grown_trans gc2 (grown_trans gc3 (grown_trans gc4 (grown_trans gc5 gk))))⟩
set_option maxHeartbeats 400000 in
theorem ring_prn (a0 a1 : Int) (w : World) (h0 : ¬ wi a1 = 0) (rl : -1073741824 ≤ rst a0 a1) (rh : rst a0 a1 ≤ 1073741823) (hy : 0 < wi a1) (k1 : rst a0 a1 < wi a1) (k2 : -rst a0 a1 < wi a1) (k3 : -wi a1 ≤ wi a1) (hr : rst a0 a1 < 0) (hx : wi a0 < 0) :
    Calls Try.prog 6 #[.int .i64 a0, .int .i64 a1] w fun e w' => e = .returned (.bool true) ∧ Grown w w' := by
  have xl := wi_lo a0
  have xh := wi_hi a0
  have yl := wi_lo a1
  have yh := wi_hi a1
  have em := mul_in (wi a0) (wi a1) xl xh yl yh
  have hE : (wi (wrap64 (wrap64 (quo a0 a1 * wi a1) + rst a0 a1)) == wi a0) = true := by rw [wi_wrap64_add]; unfold quo rst; rw [ring_q (wi a0) (wi a1) xl xh]; simp
  go_enter Try.func6, Try.ntmps6
  go_wp2_with (first
      | (go_at_call 7; ((with_reducible refine (wrap_any _ _).mono ?_); rintro e w' ⟨rfl, rfl⟩))
      | (go_at_call 10; ((with_reducible refine (c1 _ _ _).mono ?_); rintro e w' ⟨rfl, gc1⟩))
      | (go_at_call 10; ((with_reducible refine (c2 _ _ _).mono ?_); rintro e w' ⟨rfl, gc2⟩))
      | (go_at_call 10; ((with_reducible refine (c3 _ _ _).mono ?_); rintro e w' ⟨rfl, gc3⟩))
      | (go_at_call 10; ((with_reducible refine (c4 _ _ _ (by first | assumption | exact Hn.out)).mono ?_); rintro e w' ⟨rfl, gc4⟩))
      | (go_at_call 10; ((with_reducible refine (c5 _ _ _ (by first | assumption | exact Hn.out)).mono ?_); rintro e w' ⟨rfl, gc5⟩))
      | (go_at_call 9; ((with_reducible refine (knows_any _).mono ?_); rintro e w' ⟨rfl, gk⟩)))
  go_ret
  exact ⟨rfl, grown_trans gc1 (grown_trans gc2 (grown_trans gc3 (grown_trans gc4 (grown_trans gc5 gk))))⟩
set_option maxHeartbeats 400000 in
theorem ring_nrz (a0 a1 : Int) (w : World) (h0 : ¬ wi a1 = 0) (rl : -1073741824 ≤ rst a0 a1) (rh : rst a0 a1 ≤ 1073741823) (hy : wi a1 < 0) (k1 : rst a0 a1 < -wi a1) (k2 : -rst a0 a1 < -wi a1) (k3 : wi a1 ≤ -wi a1) (hr : rst a0 a1 = 0) :
    Calls Try.prog 6 #[.int .i64 a0, .int .i64 a1] w fun e w' => e = .returned (.bool true) ∧ Grown w w' := by
  have xl := wi_lo a0
  have xh := wi_hi a0
  have yl := wi_lo a1
  have yh := wi_hi a1
  have em := mul_in (wi a0) (wi a1) xl xh yl yh
  have hE : (wi (wrap64 (wrap64 (quo a0 a1 * wi a1) + rst a0 a1)) == wi a0) = true := by rw [wi_wrap64_add]; unfold quo rst; rw [ring_q (wi a0) (wi a1) xl xh]; simp
  have hE2 : (wi (wrap64 (wrap64 (quo a0 a1 * wi a1))) == wi a0) = true := by have e := hE; rw [hr, wi_wrap64_add, Int.add_zero] at e; rw [wi_wrap64, wi_wrap64]; exact e
  clear hE
  go_enter Try.func6, Try.ntmps6
  go_wp2_with (first
      | (go_at_call 7; ((with_reducible refine (wrap_any _ _).mono ?_); rintro e w' ⟨rfl, rfl⟩))
      | (go_at_call 10; ((with_reducible refine (c1 _ _ _).mono ?_); rintro e w' ⟨rfl, gc1⟩))
      | (go_at_call 10; ((with_reducible refine (c2 _ _ _).mono ?_); rintro e w' ⟨rfl, gc2⟩))
      | (go_at_call 10; ((with_reducible refine (c3 _ _ _).mono ?_); rintro e w' ⟨rfl, gc3⟩))
      | (go_at_call 10; ((with_reducible refine (c4 _ _ _ (by first | assumption | exact Hn.out)).mono ?_); rintro e w' ⟨rfl, gc4⟩))
      | (go_at_call 10; ((with_reducible refine (c5 _ _ _ (by first | assumption | exact Hn.out)).mono ?_); rintro e w' ⟨rfl, gc5⟩))
      | (go_at_call 9; ((with_reducible refine (knows_any _).mono ?_); rintro e w' ⟨rfl, gk⟩)))
  go_ret
  exact ⟨rfl, grown_trans gc1 (grown_trans gc2 (grown_trans gc3 (grown_trans gc4 (grown_trans gc5 gk))))⟩
set_option maxHeartbeats 400000 in
theorem ring_nrp (a0 a1 : Int) (w : World) (h0 : ¬ wi a1 = 0) (rl : -1073741824 ≤ rst a0 a1) (rh : rst a0 a1 ≤ 1073741823) (hy : wi a1 < 0) (k1 : rst a0 a1 < -wi a1) (k2 : -rst a0 a1 < -wi a1) (k3 : wi a1 ≤ -wi a1) (hr : 0 < rst a0 a1) (hx : 0 ≤ wi a0) :
    Calls Try.prog 6 #[.int .i64 a0, .int .i64 a1] w fun e w' => e = .returned (.bool true) ∧ Grown w w' := by
  have xl := wi_lo a0
  have xh := wi_hi a0
  have yl := wi_lo a1
  have yh := wi_hi a1
  have em := mul_in (wi a0) (wi a1) xl xh yl yh
  have hE : (wi (wrap64 (wrap64 (quo a0 a1 * wi a1) + rst a0 a1)) == wi a0) = true := by rw [wi_wrap64_add]; unfold quo rst; rw [ring_q (wi a0) (wi a1) xl xh]; simp
  go_enter Try.func6, Try.ntmps6
  go_wp2_with (first
      | (go_at_call 7; ((with_reducible refine (wrap_any _ _).mono ?_); rintro e w' ⟨rfl, rfl⟩))
      | (go_at_call 10; ((with_reducible refine (c1 _ _ _).mono ?_); rintro e w' ⟨rfl, gc1⟩))
      | (go_at_call 10; ((with_reducible refine (c2 _ _ _).mono ?_); rintro e w' ⟨rfl, gc2⟩))
      | (go_at_call 10; ((with_reducible refine (c3 _ _ _).mono ?_); rintro e w' ⟨rfl, gc3⟩))
      | (go_at_call 10; ((with_reducible refine (c4 _ _ _ (by first | assumption | exact Hn.out)).mono ?_); rintro e w' ⟨rfl, gc4⟩))
      | (go_at_call 10; ((with_reducible refine (c5 _ _ _ (by first | assumption | exact Hn.out)).mono ?_); rintro e w' ⟨rfl, gc5⟩))
      | (go_at_call 9; ((with_reducible refine (knows_any _).mono ?_); rintro e w' ⟨rfl, gk⟩)))
  go_ret
  exact ⟨rfl, grown_trans gc1 (grown_trans gc2 (grown_trans gc3 (grown_trans gc4 (grown_trans gc5 gk))))⟩
set_option maxHeartbeats 400000 in
theorem ring_nrn (a0 a1 : Int) (w : World) (h0 : ¬ wi a1 = 0) (rl : -1073741824 ≤ rst a0 a1) (rh : rst a0 a1 ≤ 1073741823) (hy : wi a1 < 0) (k1 : rst a0 a1 < -wi a1) (k2 : -rst a0 a1 < -wi a1) (k3 : wi a1 ≤ -wi a1) (hr : rst a0 a1 < 0) (hx : wi a0 < 0) :
    Calls Try.prog 6 #[.int .i64 a0, .int .i64 a1] w fun e w' => e = .returned (.bool true) ∧ Grown w w' := by
  have xl := wi_lo a0
  have xh := wi_hi a0
  have yl := wi_lo a1
  have yh := wi_hi a1
  have em := mul_in (wi a0) (wi a1) xl xh yl yh
  have hE : (wi (wrap64 (wrap64 (quo a0 a1 * wi a1) + rst a0 a1)) == wi a0) = true := by rw [wi_wrap64_add]; unfold quo rst; rw [ring_q (wi a0) (wi a1) xl xh]; simp
  go_enter Try.func6, Try.ntmps6
  go_wp2_with (first
      | (go_at_call 7; ((with_reducible refine (wrap_any _ _).mono ?_); rintro e w' ⟨rfl, rfl⟩))
      | (go_at_call 10; ((with_reducible refine (c1 _ _ _).mono ?_); rintro e w' ⟨rfl, gc1⟩))
      | (go_at_call 10; ((with_reducible refine (c2 _ _ _).mono ?_); rintro e w' ⟨rfl, gc2⟩))
      | (go_at_call 10; ((with_reducible refine (c3 _ _ _).mono ?_); rintro e w' ⟨rfl, gc3⟩))
      | (go_at_call 10; ((with_reducible refine (c4 _ _ _ (by first | assumption | exact Hn.out)).mono ?_); rintro e w' ⟨rfl, gc4⟩))
      | (go_at_call 10; ((with_reducible refine (c5 _ _ _ (by first | assumption | exact Hn.out)).mono ?_); rintro e w' ⟨rfl, gc5⟩))
      | (go_at_call 9; ((with_reducible refine (knows_any _).mono ?_); rintro e w' ⟨rfl, gk⟩)))
  go_ret
  exact ⟨rfl, grown_trans gc1 (grown_trans gc2 (grown_trans gc3 (grown_trans gc4 (grown_trans gc5 gk))))⟩
/-! ### STEP 1: THE WALK: the Go text returns true. 'Grown w w'': the world has at most new blocks (Derived/RowKit3.lean). Part the cases AHEAD of 'go_enter' where a test parts the walk; take each callee by a contract of your own. -/
theorem walk (a0 : Int) (a1 : Int) (w0 : (Lit.int .i64 a0).wf = true) (w1 : (Lit.int .i64 a1).wf = true) (w : World) :
    Calls Try.prog 6 #[.int .i64 a0, .int .i64 a1] w fun e w' => e = .returned (.bool true) ∧ Grown w w' := by
  have xl := wi_lo a0
  have xh := wi_hi a0
  have yl := wi_lo a1
  have yh := wi_hi a1
  by_cases h0 : wi a1 = 0
  · exact ring_zero a0 a1 w h0
  · have ra : (rst a0 a1).natAbs < (wi a1).natAbs := rem_abs (wi a0) (wi a1) h0
    have rp : 0 ≤ wi a0 → 0 ≤ rst a0 a1 := rem_pos (wi a0) (wi a1)
    have rn : wi a0 < 0 → rst a0 a1 ≤ 0 := rem_neg (wi a0) (wi a1)
    by_cases hy : 0 < wi a1
    · by_cases hz : rst a0 a1 = 0
      · exact ring_prz a0 a1 w h0 (by omega) (by omega) hy (by omega) (by omega) (by omega) hz
      by_cases hx : 0 ≤ wi a0
      · exact ring_prp a0 a1 w h0 (by omega) (by omega) hy (by omega) (by omega) (by omega) (by omega) hx
      · exact ring_prn a0 a1 w h0 (by omega) (by omega) hy (by omega) (by omega) (by omega) (by omega) (by omega)
    · by_cases hz : rst a0 a1 = 0
      · exact ring_nrz a0 a1 w h0 (by omega) (by omega) (by omega) (by omega) (by omega) (by omega) hz
      by_cases hx : 0 ≤ wi a0
      · exact ring_nrp a0 a1 w h0 (by omega) (by omega) (by omega) (by omega) (by omega) (by omega) (by omega) hx
      · exact ring_nrn a0 a1 w h0 (by omega) (by omega) (by omega) (by omega) (by omega) (by omega) (by omega) (by omega)

/-! ### THE ROW's STEP: WRITTEN OUT: LEAVE IT -/
set_option maxRecDepth 100000 in
theorem lifted (os : Os) (started : os.Started) (H : Type) (enc : TypeId × Value → H) :
    ReturnsInHanded {} Try.checked os 6 .any (Rows.numRingSpec.pre6 enc Try.prog Try.f6 Rows.numRingRow.domain false) (Rows.numRingSpec.post enc Try.prog Try.f6 false true false false) := by
  refine returnsInHanded_of_change (C := Try.checked) own started (by kernel_rfl) Try.func6
    (ChangeSpec.witness6 (enc := enc) (C := Try.checked) false ⟨#[], #[.int .i64 0, .int .i64 0], []⟩ 8 (by kernel_rfl) (by kernel_rfl) (by kernel_rfl) (by kernel_rfl)) ?_
  intro W base args ds gs before hval0 hW hcnd _
  have hval : ∀ (j : Nat) t v, Try.f6.params[j]? = some t → args[j]? = some v → Value.okWide Try.prog W .any base t v := hval0
  have hW' := hW
  obtain ⟨p, q, hA0, hV, rfl, hfz, hnd⟩ := hW
  have hA : DataW.TrodAll enc Try.prog W 0 (fun _ => true) true Try.f6.params.toList args.toList ds p := hA0
  rw [Try.params6] at hA hval
  obtain ⟨v0, vs0, d0, ds0, p0, q0, hargs, rfl, rfl, h0, r0⟩ := trodAll_cons hA
  obtain ⟨v1, vs1, d1, ds1, p1, q1, rfl, rfl, rfl, h1, r1⟩ := trodAll_cons r0
  obtain ⟨rfl, rfl, rfl⟩ := trodAll_nil r1
  obtain rfl : args = #[v0, v1] := by cases args; simp_all
  obtain ⟨rfl, rfl⟩ := trodVars_none hV
  obtain ⟨a0, rfl, rfl, rfl, w0⟩ := open_int Try.underlying3 (hval 0 3 v0 rfl rfl) h0
  obtain ⟨a1, rfl, rfl, rfl, w1⟩ := open_int Try.underlying3 (hval 1 3 v1 rfl rfl) h1
  clear hA0 hval0
  simp only [List.append_nil] at hW'
  refine (walk a0 a1 w0 w1 W).mono fun e W' ⟨he, hg⟩ => ?_
  subst he
  exact ⟨_, rfl, post_of_same (pa := []) (pv := []) hW' (fun _ _ _ => (trodAll_cons_mk (shut_bool Try.underlying4 _) trodAll_mk0)) (fun sp _ => (trodAll_cons_mk (shut_int Try.underlying3 w0) (trodAll_cons_mk (shut_int Try.underlying3 w1) trodAll_mk0))) (fun _ _ => rfl) rfl
    (hg.frame _) hg.2.1 (ok_one (by kernel_rfl) rfl (okWide_bool_mk Try.underlying4 _))⟩

theorem over : Rows.numRingRow.holds Try.pinned (OpenSpec.ofChange Rows.numRingSpec) :=
  OpenClaim.holds_of_wide 6 Try.f6 rfl rfl rfl rfl rfl rfl rfl ⟨rfl, rfl, rfl, rfl, rfl⟩ rfl rfl rfl rfl rfl (by kernel_rfl) Try.func6 (by kernel_rfl)
    (of_decide_eq_true (by kernel_rfl)) (by unfold Func.isWrapper; first | (rw [if_pos (by decide +kernel)]; kernel_rfl) | (rw [if_neg (by decide +kernel)]; exact ⟨rfl, rfl⟩))
    (fun os started H enc _ => lifted os started H enc)

/-- ████ THE STATEMENT ████ -/
theorem proved : Rows.NumRingSaid :=
  over
#print axioms proved
end Go.Proofs.Ytbfocgeaikchmaa.numRing
