/-
  A BUILDER OF THE CALL's OWN, AT THE BLOCK BEHIND w's.
-/
import Derived.Test.YtkogfdbmgdajdaaDoorBuilder
namespace Go.Proofs.YtkogfdbmgdajdaaDoor
open Go.ChangeShapes Go.WideShapes Go.ChangeAt Go.RowKit
/-- A builder at the block behind w's, and nothing below has turned. -/
def BInv (w : World) (bs : List UInt8) (W : World) : Prop := Below w.heap.size w W ∧ IsB w.heap.size w.heap.size (Lib.byteCells bs) W
theorem binv_new (w : World) : BInv w [] (w.alloc (.cells #[.pointer none, .slice none 0 0] 50)) := ⟨below_new _ _, Lib.fresh_isBuilder _ _ _⟩
theorem binv_below {w W W' : World} {bs : List UInt8} (h : BInv w bs W) (hb : Below W.heap.size W W') : BInv w bs W' := ⟨below_then h.1 hb, isB_below h.2 hb⟩
theorem binv_write {w W : World} {bs : List UInt8} (h : BInv w bs W) (s : ByteArray) (hl : bs.length + s.size ≤ 140737488355328) :
    Calls Tryd.prog 24 #[.pointer (some ⟨w.heap.size, 0, none⟩), .string s] W fun e w' => e = .returned (.tuple #[.int .i64 s.size, .nilIface]) ∧ BInv w (bs ++ s.data.toList) w' :=
  (writeString_any w.heap.size w.heap.size _ s W h.2 (by rw [Lib.byteCells_length]; exact hl) h.1.size).mono fun _ _ ⟨he, hB, hb⟩ => ⟨he, h.1.trans hb, by
    have e : Lib.byteCells (bs ++ s.data.toList) = Lib.byteCells bs ++ Lib.strCells s := by rw [Lib.strCells_eq]; simp [Lib.byteCells]
    rw [e]; exact hB⟩
theorem binv_string {w W : World} {bs : List UInt8} (h : BInv w bs W) :
    Calls Tryd.prog 25 #[.pointer (some ⟨w.heap.size, 0, none⟩)] W fun e w' => e = .returned (.string ⟨bs.toArray⟩) ∧ Below w.heap.size w w' :=
  (Tryd.Builder_String_any w.heap.size w.heap.size bs W h.2 h.1.size).mono fun _ _ ⟨he, hb⟩ => ⟨he, h.1.trans hb⟩
end Go.Proofs.YtkogfdbmgdajdaaDoor
