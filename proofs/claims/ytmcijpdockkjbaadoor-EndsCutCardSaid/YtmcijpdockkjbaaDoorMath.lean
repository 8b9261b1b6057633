/-
  PLAIN MATHEMATICS OF PACKAGE num (chapter 1): integers of 31 bits, and what the operations give. Nothing of the program is named here.
-/
import Derived.WalkKit
import Derived.Laws.BitsAllLaws
namespace Go.Proofs.YtmcijpdockkjbaaDoor
open Go.RowKit

/-- A number brought into 31 bits. -/
def wi (x : Int) : Int := (x + 1073741824) % 2147483648 - 1073741824
theorem wi_lo (x : Int) : -1073741824 ≤ wi x := by unfold wi; omega
theorem wi_hi (x : Int) : wi x ≤ 1073741823 := by unfold wi; omega
theorem wi_idem (x : Int) : wi (wi x) = wi x := by unfold wi; omega
theorem wi_in (x : Int) (h1 : -1073741824 ≤ x) (h2 : x ≤ 1073741823) : wi x = x := by unfold wi; omega

/-- A word's upper 31 bits, as an integer. -/
def ub (x : Int) : Int := if x < 2147483648 then x / 2 else (x - 4294967296) / 2
theorem ub_of (x : Int) (h0 : 0 ≤ x) (h1 : x ≤ 4294967295) : wrap64 (wrap32 x / 2) = ub x := by unfold ub wrap64 wrap32; omega
theorem ub_lo (x : Int) (h0 : 0 ≤ x) : -1073741824 ≤ ub x := by unfold ub; omega
theorem ub_hi (x : Int) (h1 : x ≤ 4294967295) : ub x ≤ 1073741823 := by unfold ub; omega
theorem ub_shl (x : Int) : ub (x % 4294967296 * 2 % 4294967296) = wi x := by unfold ub wi; omega
theorem ub_half (x : Int) (h0 : 0 ≤ x) (h1 : x ≤ 4294967295) : wi (x / 2) = ub x := by unfold ub wi; omega

/-- An integer's word. -/
def bx (x : Int) : Int := (2 * wi x + 1) % 4294967296
theorem bx_lo (x : Int) : 0 ≤ bx x := by unfold bx; omega
theorem bx_hi (x : Int) : bx x ≤ 4294967295 := by unfold bx; omega
theorem bx_odd (x : Int) : bx x % 2 = 1 := by unfold bx; omega
theorem ub_bx (x : Int) : ub (bx x) = wi x := by unfold ub bx wi; omega
theorem bx_ub (x : Int) (h0 : 0 ≤ x) (h1 : x ≤ 4294967295) (h : x % 2 = 1) : bx (ub x) = x := by unfold ub bx wi; omega
theorem or_one (a : Nat) (h : a % 2 = 0) : a ||| 1 = a + 1 := by
  apply Nat.eq_of_testBit_eq
  intro i
  rw [Nat.testBit_or]
  cases i with
  | zero => simp; omega
  | succ i => simp only [Nat.testBit_succ]; rw [show (a + 1) / 2 = a / 2 by omega, show 1 / 2 = 0 from rfl]; simp
theorem and_one (a : Nat) : a &&& 1 = a % 2 := Nat.and_one_is_mod a
theorem u32_or_one (a : Int) (h0 : 0 ≤ a) (h1 : a ≤ 4294967295) (h : a % 2 = 0) : bits .or .u32 a 1 = a + 1 := by
  have e := u32_or a 1 h0 (by omega) (by omega) (by omega)
  rw [e, show (1 : Int).toNat = 1 from rfl, or_one _ (by omega)]
  omega
theorem u32_and_one (a : Int) (h0 : 0 ≤ a) (h1 : a ≤ 4294967295) : bits .and .u32 a 1 = a % 2 := by
  have e := u32_and a 1 h0 (by omega) (by omega) (by omega)
  rw [e, show (1 : Int).toNat = 1 from rfl, and_one]
  omega
theorem bx_of (x : Int) : bits .or .u32 (x % 4294967296 * 2 % 4294967296) 1 = bx x := by
  rw [u32_or_one _ (by omega) (by omega) (by omega)]; unfold bx wi; omega

theorem tmod_if (x n : Int) : x.tmod n = if 0 ≤ x then x % n else -((-x) % n) := by
  split
  · exact Int.tmod_eq_emod_of_nonneg ‹_›
  · rw [← Int.tmod_eq_emod_of_nonneg (by omega), Int.neg_tmod]; omega
/-- The remainder that the reference takes first. -/
theorem wi_tmod (x : Int) : (if x.tmod 2147483648 < 0 then (if 1073741824 ≤ x.tmod 2147483648 + 2147483648 then x.tmod 2147483648 else x.tmod 2147483648 + 2147483648) else if 1073741824 ≤ x.tmod 2147483648 then x.tmod 2147483648 - 2147483648 else x.tmod 2147483648) = wi x := by
  rw [tmod_if]; unfold wi; split <;> split <;> split <;> omega

/-- The error of an operation: 28 for a number that names none, 2 for a division by nought. -/
def doE (p b : Int) : Int := if p < 1 then 28 else if 9 < p then 28 else if wi b = 0 then (if p = 4 then 2 else if p = 5 then 2 else 0) else 0
def oneIf (b : Bool) : Int := if b then 1 else 0
theorem wi_oneIf (b : Bool) : wi (oneIf b) = oneIf b := by cases b <;> decide
/-- What an operation gives of two integers of 31 bits, before it is wrapped. -/
def rawZ (p x y : Int) : Int :=
  if p = 1 then x + y else if p = 2 then x - y else if p = 3 then x * y else if p = 4 then x.tdiv y else if p = 5 then x.tmod y
  else if p = 6 then oneIf (x == y) else if p = 7 then oneIf (x != y) else if p = 8 then oneIf (decide (x < y)) else oneIf (decide (x ≤ y))
def doV (p a b : Int) : Int := if doE p b = 0 then wi (rawZ p (wi a) (wi b)) else 0

theorem mul_in (x y : Int) (a1 : -1073741824 ≤ x) (a2 : x ≤ 1073741823) (b1 : -1073741824 ≤ y) (b2 : y ≤ 1073741823) : wrap64 (x * y) = x * y := by
  have h : x.natAbs * y.natAbs ≤ 1073741824 * 1073741824 := Nat.mul_le_mul (by omega) (by omega)
  rw [← Int.natAbs_mul] at h
  unfold wrap64; omega
theorem div_in (x y : Int) (a1 : -1073741824 ≤ x) (a2 : x ≤ 1073741823) : wrap64 (x.tdiv y) = x.tdiv y := by
  have h : x.natAbs.div y.natAbs ≤ x.natAbs := Nat.div_le_self _ _
  rw [← Int.natAbs_tdiv] at h
  unfold wrap64; omega
theorem doE_in (p y : Int) (h1 : 1 ≤ p) (h2 : p ≤ 9) (h : ¬ wi y = 0) : doE p y = 0 := by
  unfold doE; rw [if_neg (by omega), if_neg (by omega), if_neg h]
theorem doE_zero (p y : Int) (h1 : 1 ≤ p) (h2 : p ≤ 9) (h : wi y = 0) (h4 : ¬ p = 4) (h5 : ¬ p = 5) : doE p y = 0 := by
  unfold doE; rw [if_neg (by omega), if_neg (by omega), if_pos h, if_neg h4, if_neg h5]
theorem doV_ok (p x y : Int) (h : doE p y = 0) : doV p x y = wi (rawZ p (wi x) (wi y)) := by unfold doV; rw [if_pos h]
theorem doE_4 (y : Int) (h : wi y = 0) : doE 4 y = 2 := by unfold doE; rw [if_neg (by omega), if_neg (by omega), if_pos h]; rfl
theorem doE_5 (y : Int) (h : wi y = 0) : doE 5 y = 2 := by unfold doE; rw [if_neg (by omega), if_neg (by omega), if_pos h]; rfl
theorem doV_no (p x y : Int) (h : ¬ doE p y = 0) : doV p x y = 0 := by unfold doV; rw [if_neg h]
/-! ### P107 -/
theorem wi_wrap64 (t : Int) : wi (wrap64 t) = wi t := by unfold wi wrap64; omega
theorem wi_wrap64_add (t r : Int) : wi (wrap64 (wrap64 t + r)) = wi (t + r) := by unfold wi wrap64; omega
theorem wi_off (u : Int) : ∃ k : Int, wi u = u - k * 2147483648 := ⟨(u + 1073741824) / 2147483648, by unfold wi; omega⟩
theorem ring_q (X Y : Int) (h1 : -1073741824 ≤ X) (h2 : X ≤ 1073741823) : wi (wi (X.tdiv Y) * Y + X.tmod Y) = X := by
  obtain ⟨k, e⟩ := wi_off (X.tdiv Y)
  have d := Int.tmod_add_mul_tdiv X Y
  have m : wi (X.tdiv Y) * Y + X.tmod Y = X - (k * Y) * 2147483648 := by
    rw [e, Int.sub_mul]
    have c : Y * X.tdiv Y = X.tdiv Y * Y := Int.mul_comm _ _
    have c2 : k * 2147483648 * Y = k * Y * 2147483648 := by rw [Int.mul_assoc, Int.mul_comm 2147483648 Y, ← Int.mul_assoc]
    omega
  rw [m]
  generalize k * Y = z
  unfold wi; omega
theorem rem_abs (X Y : Int) (h : ¬ Y = 0) : (X.tmod Y).natAbs < Y.natAbs := by
  rw [Int.natAbs_tmod]; exact Nat.mod_lt _ (by omega)
theorem rem_in31 (X Y : Int) (h : ¬ Y = 0) (h1 : -1073741824 ≤ Y) (h2 : Y ≤ 1073741823) : wi (X.tmod Y) = X.tmod Y := by
  have := rem_abs X Y h
  unfold wi; omega
theorem rem_pos (X Y : Int) (h : 0 ≤ X) : 0 ≤ X.tmod Y := Int.tmod_nonneg _ h
theorem rem_neg (X Y : Int) (h : X < 0) : X.tmod Y ≤ 0 := by
  have e := Int.neg_tmod (-X) Y
  have p := Int.tmod_nonneg (a := -X) Y (by omega)
  rw [Int.neg_neg] at e
  omega
end Go.Proofs.YtmcijpdockkjbaaDoor
