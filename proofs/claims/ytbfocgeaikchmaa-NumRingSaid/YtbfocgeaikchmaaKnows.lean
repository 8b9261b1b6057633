/-
  THE CHAPTER'S EXAMPLES: camletlaw01.knows returns true.
-/
import Derived.Test.YtbfocgeaikchmaaNum
namespace Go.Proofs.Ytbfocgeaikchmaa
open Go.ChangeShapes Go.WideShapes Go.ChangeAt Go.RowKit
theorem do_div (w : World) : Calls Try.prog 10 #[.int .i64 4, .int .i64 (-7), .int .i64 2] w fun e w' => e = .returned (.tuple #[.int .i64 (-3), .int .i64 0]) ∧ Grown w w' :=
  (do_any 4 (-7) 2 w).mono fun _ _ ⟨he, hg⟩ => ⟨he.trans (by kernel_rfl), hg⟩
theorem do_mod (w : World) : Calls Try.prog 10 #[.int .i64 5, .int .i64 (-7), .int .i64 2] w fun e w' => e = .returned (.tuple #[.int .i64 (-1), .int .i64 0]) ∧ Grown w w' :=
  (do_any 5 (-7) 2 w).mono fun _ _ ⟨he, hg⟩ => ⟨he.trans (by kernel_rfl), hg⟩
theorem wrap_30 (w : World) : Calls Try.prog 7 #[.int .i64 1073741824] w fun e w' => e = .returned (.int .i64 (-1073741824)) ∧ w = w' := wrap_any 1073741824 w
theorem box_1 (w : World) : Calls Try.prog 12 #[.int .i64 (-1)] w fun e w' => e = .returned (.int .u32 4294967295) ∧ w = w' := box_any (-1) w
theorem knows_any (w : World) : Calls Try.prog 9 #[] w fun e w' => e = .returned (.bool true) ∧ Grown w w' := by
  go_enter Try.func9, Try.ntmps9
  go_wp2_with (first
    | (go_at_call 10; ((with_reducible refine (do_div _).mono ?_); rintro e w' ⟨rfl, hg1⟩))
    | (go_at_call 10; ((with_reducible refine (do_mod _).mono ?_); rintro e w' ⟨rfl, hg2⟩))
    | (go_at_call 7; ((with_reducible refine (wrap_30 _).mono ?_); rintro e w' ⟨rfl, rfl⟩))
    | (go_at_call 12; ((with_reducible refine (box_1 _).mono ?_); rintro e w' ⟨rfl, rfl⟩)))
  go_ret
  exact ⟨rfl, grown_trans hg1 hg2⟩
end Go.Proofs.Ytbfocgeaikchmaa
