/-
  knows OF THE LAWS OF pos, AND WHAT THE LAWS ASK OF At AND Of IN PLAIN WORDS.
-/
import Derived.Test.YtnpmipmdffbpdaaDoorPosR
namespace Go.Proofs.YtnpmipmdffbpdaaDoor
open Go.ChangeShapes Go.WideShapes Go.ChangeAt Go.RowKit Go.Shelf
set_option linter.unusedVariables false

theorem atR_yes {s : ByteArray} {k : Nat} {v : Value} (hk : k ≤ s.size) (h : AtR s k v) : v = spotV s k := by
  rcases h with ⟨_, _, h⟩ | ⟨h, _⟩
  · simpa using h
  · exact absurd ⟨by omega, by omega⟩ h
theorem atR_no {s : ByteArray} {a : Int} {v : Value} (hk : ¬ (0 ≤ a ∧ a ≤ s.size)) (h : AtR s a v) : v = noSpot := by
  rcases h with ⟨h0, h1, _⟩ | ⟨_, h⟩
  · exact absurd ⟨h0, h1⟩ hk
  · exact h
theorem ofR_yes {s : ByteArray} {x y : Int} {k : Nat} {v : Value} (hk : SpotAt (nlS s) s.size x y k) (h : OfR s x y v) : v = .tuple #[.int .i64 (k : Nat), .bool true] := by
  rcases h with ⟨j, hj, h⟩ | ⟨h, _⟩
  · rw [h, hj.one hk]
  · exact absurd hk (h k)
theorem ofR_no {s : ByteArray} {x y : Int} {v : Value} (hk : ∀ k, ¬ SpotAt (nlS s) s.size x y k) (h : OfR s x y v) : v = .tuple #[.int .i64 0, .bool false] := by
  rcases h with ⟨j, hj, h⟩ | ⟨_, h⟩
  · exact absurd hj (hk j)
  · exact h
/-- At of an offset in the range. -/
theorem at_yes (s : ByteArray) (hs : s.size ≤ 1000) (k : Nat) (hk : k ≤ s.size) (w : World) :
    Calls Tryd.prog 7 #[.string s, .int .i64 k] w fun e W' => e = .returned (.tuple #[.agg #[.int .i64 (ln (nlS s) k : Nat), .int .i64 (cl (nlS s) k : Nat)], .bool true]) ∧ Below w.heap.size w W' :=
  (at_any s (by omega) k (by omega) (by omega) w).mono fun _ _ ⟨v, he, hv, hb⟩ => ⟨by rw [he, atR_yes hk hv]; rfl, hb⟩
theorem at_no (s : ByteArray) (hs : s.size ≤ 1000) (a : Int) (ha : R64 a) (hk : ¬ (0 ≤ a ∧ a ≤ s.size)) (w : World) :
    Calls Tryd.prog 7 #[.string s, .int .i64 a] w fun e W' => e = .returned (.tuple #[.agg #[.int .i64 0, .int .i64 0], .bool false]) ∧ Below w.heap.size w W' :=
  (at_any s (by omega) a ha.1 ha.2 w).mono fun _ _ ⟨v, he, hv, hb⟩ => ⟨by rw [he, atR_no hk hv]; rfl, hb⟩
theorem of_yes (s : ByteArray) (hs : s.size ≤ 1000) (u v : Int) (hu : R64 u) (hv : R64 v) (k : Nat) (hk : SpotAt (nlS s) s.size u v k) (w : World) :
    Calls Tryd.prog 9 #[.string s, .agg #[.int .i64 u, .int .i64 v]] w fun e W' => e = .returned (.tuple #[.int .i64 (k : Nat), .bool true]) ∧ Below w.heap.size w W' :=
  (of_any s (by omega) u v hu hv w).mono fun _ _ ⟨r, he, hr, hb⟩ => ⟨by rw [he, ofR_yes hk hr], hb⟩
theorem of_no (s : ByteArray) (hs : s.size ≤ 1000) (u v : Int) (hu : R64 u) (hv : R64 v) (hk : ∀ k, ¬ SpotAt (nlS s) s.size u v k) (w : World) :
    Calls Tryd.prog 9 #[.string s, .agg #[.int .i64 u, .int .i64 v]] w fun e W' => e = .returned (.tuple #[.int .i64 0, .bool false]) ∧ Below w.heap.size w W' :=
  (of_any s (by omega) u v hu hv w).mono fun _ _ ⟨r, he, hr, hb⟩ => ⟨by rw [he, ofR_no hk hr], hb⟩

/-! ### knows -/
def exS : ByteArray := ⟨#[97, 98, 10, 99]⟩
theorem exS_size : exS.size = 4 := rfl
theorem ex_ln : ln (nlS exS) 3 = 2 ∧ cl (nlS exS) 3 = 1 := by decide +kernel
theorem ex_of : SpotAt (nlS exS) exS.size 2 2 4 := by refine ⟨by decide, ?_, ?_⟩ <;> decide +kernel
theorem ex_no (k : Nat) : ¬ SpotAt (nlS exS) exS.size 1 4 k := fun h => by
  have h4 : k ≤ 4 := h.1
  have : k = 0 ∨ k = 1 ∨ k = 2 ∨ k = 3 ∨ k = 4 := by omega
  have all : ∀ j ∈ [0, 1, 2, 3, 4], ¬ ((1 : Int) = (ln (nlS exS) j : Nat) ∧ (4 : Int) = (cl (nlS exS) j : Nat)) := by decide +kernel
  exact all k (by rcases this with h | h | h | h | h <;> simp [h]) h.2
theorem ex_show : shwSpot 2 1 = ⟨#[50, 58, 49]⟩ := by decide +kernel
theorem know_at (w : World) : Calls Tryd.prog 7 #[.string ⟨#[97, 98, 10, 99]⟩, .int .i64 3] w fun e W' => e = .returned (.tuple #[.agg #[.int .i64 2, .int .i64 1], .bool true]) ∧ Below w.heap.size w W' :=
  (at_yes exS (by decide) 3 (by decide) w).mono fun _ _ ⟨he, hb⟩ => ⟨by rw [he, ex_ln.1, ex_ln.2]; rfl, hb⟩
theorem know_of (w : World) : Calls Tryd.prog 9 #[.string ⟨#[97, 98, 10, 99]⟩, .agg #[.int .i64 2, .int .i64 2]] w fun e W' => e = .returned (.tuple #[.int .i64 4, .bool true]) ∧ Below w.heap.size w W' :=
  of_yes exS (by decide) 2 2 (by unfold R64; omega) (by unfold R64; omega) 4 ex_of w
theorem know_no (w : World) : Calls Tryd.prog 9 #[.string ⟨#[97, 98, 10, 99]⟩, .agg #[.int .i64 1, .int .i64 4]] w fun e W' => e = .returned (.tuple #[.int .i64 0, .bool false]) ∧ Below w.heap.size w W' :=
  of_no exS (by decide) 1 4 (by unfold R64; omega) (by unfold R64; omega) ex_no w
theorem know_show (w : World) (ht : Pow10 w) : Calls Tryd.prog 11 #[.agg #[.int .i64 2, .int .i64 1]] w fun e W' => e = .returned (.string ⟨#[50, 58, 49]⟩) ∧ Below w.heap.size w W' :=
  (pshow_any 2 1 (by unfold R64; omega) (by unfold R64; omega) w ht).mono fun _ _ ⟨he, hb⟩ => ⟨by rw [he, ex_show], hb⟩
set_option maxHeartbeats 2000000 in
theorem knows_any (w : World) (ht : Pow10 w) : Calls Tryd.prog 6 #[] w fun e w' => e = .returned (.bool true) ∧ Below w.heap.size w w' := by
  have HT := Lib.hid ht
  clear ht
  go_enter Tryd.func6, Tryd.ntmps6
  go_wp2_with (first
    | (go_at_call 7; refine (know_at _).mono ?_; rintro e w1 ⟨rfl, h1⟩; obtain ⟨hc1, hf1⟩ := bcell h1; have B1 := Lib.hid h1; clear h1)
    | (go_at_call 9; (with_reducible refine (know_of _).mono ?_); rintro e w2 ⟨rfl, h2⟩; obtain ⟨hc2, hf2⟩ := bcell h2; have z2 : w1.heap.size < w2.heap.size := (by have := h2.size; simp at this; omega); have B2 := Lib.hid h2; clear h2)
    | (go_at_call 9; (with_reducible refine (know_no _).mono ?_); rintro e w3 ⟨rfl, h3⟩; obtain ⟨hc3, hf3⟩ := bcell h3; have z3 : w1.heap.size < w3.heap.size := (by have := h3.size; omega); have B3 := Lib.hid (below_then ((B1.out.alloc B1.out.size _).trans (B2.out.mono (by have := B1.out.size; simp; omega))) h3); clear h3 B1 B2)
    | (go_at_call 11; refine (know_show _ (HT.out.on B3.out)).mono ?_; rintro e w4 ⟨rfl, h4⟩; obtain ⟨hc4, hf4⟩ := bcell h4; have B4 := Lib.hid (below_then B3.out h4); clear h4))
  go_ret
  exact ⟨rfl, B4.out⟩
end Go.Proofs.YtnpmipmdffbpdaaDoor
