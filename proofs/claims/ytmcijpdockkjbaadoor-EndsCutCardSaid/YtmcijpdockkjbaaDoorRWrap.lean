/-
  THE REFERENCE's Wrap (package camletref01).
-/
import Derived.Test.YtmcijpdockkjbaaDoorMath
import Derived.Test.YtmcijpdockkjbaaDoorInts
import Derived.Test.YtmcijpdockkjbaaDoorRows
import Derived.ProofKit
namespace Go.Proofs.YtmcijpdockkjbaaDoor
open Go.ChangeShapes Go.WideShapes Go.ChangeAt Go.RowKit
set_option linter.unusedVariables false
theorem tmod_lo (x : Int) : -2147483648 < x.tmod 2147483648 := by rw [tmod_if]; split <;> omega
theorem tmod_hi (x : Int) : x.tmod 2147483648 < 2147483648 := by rw [tmod_if]; split <;> omega

theorem rwrap_any (x : Int) (w : World) :
    Calls Tryd.prog 16 #[.int .i64 x] w fun e w' => e = .returned (.int .i64 (wi x)) ∧ w = w' := by
  have l := tmod_lo x
  have h := tmod_hi x
  go_enter Tryd.func16, Tryd.ntmps16
  go_wp2
  all_goals go_ret
  all_goals refine ⟨ret_int ?_, rfl⟩
  all_goals (have e := tmod_if x 2147483648; unfold wi; split at e <;> omega)

end Go.Proofs.YtmcijpdockkjbaaDoor
