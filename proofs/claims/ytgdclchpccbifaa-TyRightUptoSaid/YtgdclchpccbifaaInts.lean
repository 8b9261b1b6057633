/-
  SLICES OF INTEGERS AS LISTS: a slice value '.slice A n c' whose cells hold the integers of a list, nil let in. Small lemmas on endings. Nothing of the program is named here.
-/
import Derived.Test.YtgdclchpccbifaaKit
import Derived.Laws.OwnMore
import Derived.Deep.AppendLies
import Derived.Deep.Draws
namespace Go.Proofs.Ytgdclchpccbifaa
open Go.ChangeShapes Go.WideShapes Go.ChangeAt Go.RowKit

theorem ret_int {k : IntKind} {a b : Int} (h : a = b) : Ending.returned (.int k a) = .returned (.int k b) := by rw [h]
theorem ret_bool {a b : Bool} (h : a = b) : Ending.returned (.bool a) = .returned (.bool b) := by rw [h]
theorem ret_str {a b : ByteArray} (h : a = b) : Ending.returned (.string a) = .returned (.string b) := by rw [h]

theorem block_add (a : Addr) (n : Nat) : (a.add n).block = a.block := by unfold Addr.add; split <;> rfl
/-- The cells from A on hold the integers of xs; all lie below block B. -/
def IntsAt (w : World) (B : Nat) (A : Option Addr) (xs : List Int) : Prop :=
  ∀ (k : Nat) (x : Int), xs[k]? = some x → ∃ ad : Addr, A = some ad ∧ ad.block < B ∧ w.cell? (ad.add k) = some (.int .i64 x)
section
variable {w w' : World} {B B' : Nat} {A : Option Addr} {xs : List Int}
theorem IntsAt.nil : IntsAt w B A [] := fun k x h => by simp at h
theorem IntsAt.keep (h : IntsAt w B A xs) (hk : ∀ p : Addr, p.block < B → w'.cell? p = w.cell? p) : IntsAt w' B A xs := fun k x hx => by
  obtain ⟨ad, e, hb, hc⟩ := h k x hx
  exact ⟨ad, e, hb, (hk _ (by rw [block_add]; exact hb)).trans hc⟩
theorem IntsAt.more (h : IntsAt w B A xs) (hB : B ≤ B') : IntsAt w B' A xs := fun k x hx => by
  obtain ⟨ad, e, hb, hc⟩ := h k x hx
  exact ⟨ad, e, by omega, hc⟩
theorem IntsAt.below (h : IntsAt w B A xs) (hb : Below B w w') : IntsAt w' B A xs := h.keep fun _ hp => hb.cell hp
theorem IntsAt.drewN (h : IntsAt w B A xs) (k : Nat) : IntsAt (w.drewN k) B A xs := h
theorem IntsAt.alloc (h : IntsAt w B A xs) (hB : B ≤ w.heap.size) (o : Obj) : IntsAt (w.alloc o) B A xs := h.keep fun p hp => World.cell?_alloc_lt w o p (by omega)
theorem IntsAt.at_ (h : IntsAt w B A xs) {k : Nat} (hk : k < xs.length) : ∃ ad : Addr, A = some ad ∧ ad.block < B ∧ w.cell? (ad.add k) = some (.int .i64 xs[k]) := h k _ (List.getElem?_eq_getElem hk)
theorem IntsAt.take (h : IntsAt w B A xs) (n : Nat) : IntsAt w B A (xs.take n) := fun k x hx => h k x (by
  rw [List.getElem?_take] at hx
  split at hx
  · exact hx
  · cases hx)
end
/-- Every integer of the list is one of 64 bits. -/
def In64 (xs : List Int) : Prop := ∀ x ∈ xs, -9223372036854775808 ≤ x ∧ x ≤ 9223372036854775807
theorem In64.at_ {xs : List Int} (h : In64 xs) {k : Nat} (hk : k < xs.length) : -9223372036854775808 ≤ xs[k] ∧ xs[k] ≤ 9223372036854775807 := h _ (List.getElem_mem hk)
theorem In64.take {xs : List Int} (h : In64 xs) (n : Nat) : In64 (xs.take n) := fun x hx => h x (List.mem_of_mem_take hx)
theorem In64.nil : In64 [] := fun x h => by cases h
end Go.Proofs.Ytgdclchpccbifaa
