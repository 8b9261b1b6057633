/-
  THE CHAPTER'S EXAMPLES: camletlaw01.knows returns true.
-/
import Derived.Test.YtbfocgeaikchmaaDoorNum
namespace Go.Proofs.YtbfocgeaikchmaaDoor
open Go.ChangeShapes Go.WideShapes Go.ChangeAt Go.RowKit
theorem do_div (w : World) : Calls Tryd.prog 16 #[.int .i64 4, .int .i64 (-7), .int .i64 2] w fun e w' => e = .returned (.tuple #[.int .i64 (-3), .int .i64 0]) ∧ Below w.heap.size w w' :=
  (do_any 4 (-7) 2 w).mono fun _ _ ⟨he, hg⟩ => ⟨he.trans (by kernel_rfl), hg⟩
theorem do_mod (w : World) : Calls Tryd.prog 16 #[.int .i64 5, .int .i64 (-7), .int .i64 2] w fun e w' => e = .returned (.tuple #[.int .i64 (-1), .int .i64 0]) ∧ Below w.heap.size w w' :=
  (do_any 5 (-7) 2 w).mono fun _ _ ⟨he, hg⟩ => ⟨he.trans (by kernel_rfl), hg⟩
theorem wrap_30 (w : World) : Calls Tryd.prog 12 #[.int .i64 1073741824] w fun e w' => e = .returned (.int .i64 (-1073741824)) ∧ w = w' := wrap_any 1073741824 w
theorem box_1 (w : World) : Calls Tryd.prog 11 #[.int .i64 (-1)] w fun e w' => e = .returned (.int .u32 4294967295) ∧ w = w' := box_any (-1) w
theorem knows_any (w : World) : Calls Tryd.prog 9 #[] w fun e w' => e = .returned (.bool true) ∧ Below w.heap.size w w' := by
  go_enter Tryd.func9, Tryd.ntmps9
  go_wp2_with (first
    | (go_at_call 16; ((with_reducible refine (do_div _).mono ?_); rintro e w' ⟨rfl, hg1⟩))
    | (go_at_call 16; ((with_reducible refine (do_mod _).mono ?_); rintro e w' ⟨rfl, hg2⟩))
    | (go_at_call 12; ((with_reducible refine (wrap_30 _).mono ?_); rintro e w' ⟨rfl, rfl⟩))
    | (go_at_call 11; ((with_reducible refine (box_1 _).mono ?_); rintro e w' ⟨rfl, rfl⟩)))
  go_ret
  exact ⟨rfl, hg1.trans (hg2.mono hg1.size)⟩
end Go.Proofs.YtbfocgeaikchmaaDoor
