/-
  THE WALKS OF THE LAWS OF pos.
-/
import Derived.Test.YtnpmipmdffbpdaaDoorPosK
import Derived.Lib.SmallJoins
import Derived.Deep.DeepCutAuto
namespace Go.Proofs.YtnpmipmdffbpdaaDoor
open Go.ChangeShapes Go.WideShapes Go.ChangeAt Go.RowKit Go.Shelf
set_option linter.unusedVariables false

/-! ### Contracts in a class of worlds -/
section
variable {W0 wS : World}
theorem in_S {P : Program} {f : FuncId} {args : Array Value} {v : Value} (h : Calls P f args wS fun e w' => e = .returned v ∧ Below wS.heap.size wS w') (hS : Below W0.heap.size W0 wS) :
    Calls P f args wS fun e w' => e = .returned v ∧ Below W0.heap.size W0 w' := h.mono fun _ _ ⟨he, hb⟩ => ⟨he, hS.trans (hb.mono hS.size)⟩
theorem knows_S (ht : Pow10 W0) (hS : Below W0.heap.size W0 wS) : Calls Tryd.prog 6 #[] wS fun e w' => e = .returned (.bool true) ∧ Below W0.heap.size W0 w' := in_S (knows_any wS (ht.on hS)) hS
theorem pshow_S (u v : Int) (hu : R64 u) (hv : R64 v) (ht : Pow10 W0) (hS : Below W0.heap.size W0 wS) : Calls Tryd.prog 11 #[.agg #[.int .i64 u, .int .i64 v]] wS fun e w' => e = .returned (.string (shwSpot u v)) ∧ Below W0.heap.size W0 w' := in_S (pshow_any u v hu hv wS (ht.on hS)) hS
theorem rpshow_S (u v : Int) (hu : R64 u) (hv : R64 v) (hS : Below W0.heap.size W0 wS) : Calls Tryd.prog 12 #[.agg #[.int .i64 u, .int .i64 v]] wS fun e w' => e = .returned (.string (shwSpot u v)) ∧ Below W0.heap.size W0 w' := in_S (rpshow_any u v hu hv wS) hS
end

/-! ### PosRises -/
theorem rises_long (s : ByteArray) (a b : Int) (hl : 1000 < s.size) (hm : s.size ≤ maxLen) (w : World) (ht : Pow10 w) :
    Calls Tryd.prog 5 #[.string s, .int .i64 a, .int .i64 b] w fun e w' => e = .returned (.bool true) ∧ Below w.heap.size w w' := by
  have HT := Lib.hid ht
  clear ht
  unfold maxLen at hm
  go_enter Tryd.func5, Tryd.ntmps5
  go_wp2_with (go_at_call 6; refine (knows_any _ HT.out).mono ?_; rintro e w1 ⟨rfl, h1⟩)
  go_ret
  exact ⟨rfl, h1⟩
theorem rises_out (s : ByteArray) (a b : Int) (hl : s.size ≤ 1000) (ha : R64 a) (hb : R64 b) (h : ¬ (0 ≤ a ∧ a ≤ s.size) ∨ ¬ (0 ≤ b ∧ b ≤ s.size)) (w : World) (ht : Pow10 w) :
    Calls Tryd.prog 5 #[.string s, .int .i64 a, .int .i64 b] w fun e w' => e = .returned (.bool true) ∧ Below w.heap.size w w' := by
  have HT := Lib.hid ht
  have HL := Lib.hid hl
  have HA := Lib.hid ha
  have HB := Lib.hid hb
  clear ht ha hb
  by_cases h1 : 0 ≤ a ∧ a ≤ s.size
  · have h2 : ¬ (0 ≤ b ∧ b ≤ s.size) := by rcases h with h | h; exact absurd h1 h; exact h
    obtain ⟨n, rfl⟩ : ∃ n : Nat, a = n := ⟨a.toNat, by omega⟩
    have N1 := Lib.hid (show n ≤ s.size by omega)
    have N2 := Lib.hid h2
    clear h h1 h2
    go_enter Tryd.func5, Tryd.ntmps5
    go_wp2_with (first
      | (go_at_call 7; (with_reducible refine (at_yes s HL.out n N1.out _).mono ?_); rintro e w1 ⟨rfl, h1⟩; obtain ⟨hc1, hf1⟩ := bcell h1; have B1 := Lib.hid h1; clear h1)
      | (go_at_call 7; (with_reducible refine (at_no s HL.out b HB.out N2.out _).mono ?_); rintro e w2 ⟨rfl, h2⟩; obtain ⟨hc2, hf2⟩ := bcell h2; have B2 := Lib.hid (below_then (B1.out.alloc B1.out.size _) h2); clear h2)
      | (go_at_call 6; refine (knows_any _ (HT.out.on (B2.out.alloc B2.out.size _))).mono ?_; rintro e w4 ⟨rfl, h4⟩; have B4 := Lib.hid (below_then (B2.out.alloc B2.out.size _) h4); clear h4))
    go_ret
    exact ⟨rfl, B4.out⟩
  · have N1 := Lib.hid h1
    clear h h1
    by_cases h2 : 0 ≤ b ∧ b ≤ s.size
    · obtain ⟨m, rfl⟩ : ∃ m : Nat, b = m := ⟨b.toNat, by omega⟩
      have N2 := Lib.hid (show m ≤ s.size by omega)
      clear h2
      go_enter Tryd.func5, Tryd.ntmps5
      go_wp2_with (first
        | (go_at_call 7; (with_reducible refine (at_no s HL.out a HA.out N1.out _).mono ?_); rintro e w1 ⟨rfl, h1⟩; obtain ⟨hc1, hf1⟩ := bcell h1; have B1 := Lib.hid h1; clear h1 HA)
        | (go_at_call 7; (with_reducible refine (at_yes s HL.out m N2.out _).mono ?_); rintro e w2 ⟨rfl, h2⟩; obtain ⟨hc2, hf2⟩ := bcell h2; have B2 := Lib.hid (below_then (B1.out.alloc B1.out.size _) h2); clear h2)
        | (go_at_call 6; refine (knows_any _ (HT.out.on (B2.out.alloc B2.out.size _))).mono ?_; rintro e w4 ⟨rfl, h4⟩; have B4 := Lib.hid (below_then (B2.out.alloc B2.out.size _) h4); clear h4))
      go_ret
      exact ⟨rfl, B4.out⟩
    · have N2 := Lib.hid h2
      clear h2
      go_enter Tryd.func5, Tryd.ntmps5
      go_wp2_with (first
        | (go_at_call 7; (with_reducible refine (at_no s HL.out a HA.out N1.out _).mono ?_); rintro e w1 ⟨rfl, h1⟩; obtain ⟨hc1, hf1⟩ := bcell h1; have B1 := Lib.hid h1; clear h1 HA)
        | (go_at_call 7; (with_reducible refine (at_no s HL.out b HB.out N2.out _).mono ?_); rintro e w2 ⟨rfl, h2⟩; obtain ⟨hc2, hf2⟩ := bcell h2; have B2 := Lib.hid (below_then (B1.out.alloc B1.out.size _) h2); clear h2)
        | (go_at_call 6; refine (knows_any _ (HT.out.on (B2.out.alloc B2.out.size _))).mono ?_; rintro e w4 ⟨rfl, h4⟩; have B4 := Lib.hid (below_then (B2.out.alloc B2.out.size _) h4); clear h4))
      go_ret
      exact ⟨rfl, B4.out⟩

/-- A spot's block, in a world that has kept it. -/
theorem spot_kept {W0 W : World} {B : Nat} {x y : Int} (hB : Below W0.heap.size W0 W) (g : W0.heap[B]? = some (.cells #[.int .i64 x, .int .i64 y] 23 (0, 0))) :
    W.cell? ⟨B, 0, none⟩ = some (.int .i64 x) ∧ W.cell? ⟨B, 1, none⟩ = some (.int .i64 y) :=
  have k := (hB.block _ (Array.getElem?_eq_some_iff.1 g).1).trans g
  ⟨block_cell k rfl, block_cell k rfl⟩
theorem rises_ways (f : Nat → Bool) (n m : Nat) :
    (n < m ∧ ln f n < ln f m) ∨ (n < m ∧ ln f n = ln f m ∧ cl f n < cl f m) ∨ n = m ∨ (m < n ∧ ln f m < ln f n) ∨ (m < n ∧ ln f n = ln f m ∧ cl f m < cl f n) := by
  rcases Nat.lt_trichotomy n m with h | h | h
  · have f1 := fs_le (nl := f) n
    rcases rises (nl := f) h with h' | ⟨h', h''⟩
    · exact .inl ⟨h, h'⟩
    · exact .inr (.inl ⟨h, h', by unfold cl; omega⟩)
  · exact .inr (.inr (.inl h))
  · have f1 := fs_le (nl := f) m
    rcases rises (nl := f) h with h' | ⟨h', h''⟩
    · exact .inr (.inr (.inr (.inl ⟨h, h'⟩)))
    · exact .inr (.inr (.inr (.inr ⟨h, h'.symm, by unfold cl; omega⟩)))
set_option maxHeartbeats 4000000 in
theorem rises_1 (s : ByteArray) (n m a b c d : Nat) (hl : s.size ≤ 1000) (hn : n ≤ s.size) (hm : m ≤ s.size) (ea : ln (nlS s) n = a) (eb : cl (nlS s) n = b) (ec : ln (nlS s) m = c) (ed : cl (nlS s) m = d)
    (h : (n < m ∧ a < c) ∨ (n < m ∧ a = c ∧ b < d) ∨ (n = m ∧ a = c ∧ b = d) ∨ (m < n ∧ c < a) ∨ (m < n ∧ a = c ∧ d < b)) (w : World) (ht : Pow10 w) :
    Calls Tryd.prog 5 #[.string s, .int .i64 n, .int .i64 m] w fun e w' => e = .returned (.bool true) ∧ Below w.heap.size w w' := by
  have HT := Lib.hid ht
  have l1 : 1 ≤ a := by rw [← ea]; exact ln_pos _
  have l2 : 1 ≤ b := by rw [← eb]; exact (cl_le _).1
  have A1 := Lib.hid (fun w => (at_yes s hl n hn w))
  have A2 := Lib.hid (fun w => (at_yes s hl m hm w))
  rw [ea, eb] at A1
  rw [ec, ed] at A2
  clear ht ea eb ec ed hn hm
  rcases h with ⟨h1, h2⟩ | ⟨h1, rfl, h2⟩ | ⟨rfl, rfl, rfl⟩ | ⟨h1, h2⟩ | ⟨h1, rfl, h2⟩
  all_goals
    go_enter Tryd.func5, Tryd.ntmps5
    go_wp2_with (first
      | (go_at_call 7; (with_reducible refine (A1.out _).mono ?_); rintro e w1 ⟨rfl, h1⟩; obtain ⟨hc1, hf1⟩ := bcell h1; have B1 := Lib.hid h1; clear h1 A1)
      | (go_at_call 7; (with_reducible refine (A2.out _).mono ?_); rintro e w2 ⟨rfl, h2⟩; obtain ⟨hc2, hf2⟩ := bcell h2; have z2 : w1.heap.size < w2.heap.size := (by have := h2.size; simp at this; omega); have B2 := Lib.hid (below_then (B1.out.alloc B1.out.size _) h2); clear h2)
      | (go_at_call 6; refine (knows_any _ (HT.out.on (B2.out.alloc B2.out.size _))).mono ?_; rintro e w4 ⟨rfl, h4⟩; have B4 := Lib.hid (below_then (B2.out.alloc B2.out.size _) h4); clear h4))
    go_ret
    exact ⟨rfl, B4.out⟩
/-- **PosRises.** -/
theorem rises_run (s : ByteArray) (a b : Int) (hm : s.size ≤ maxLen) (ha : R64 a) (hb : R64 b) (w : World) (ht : Pow10 w) :
    Calls Tryd.prog 5 #[.string s, .int .i64 a, .int .i64 b] w fun e w' => e = .returned (.bool true) ∧ Below w.heap.size w w' := by
  by_cases hl : s.size ≤ 1000
  · by_cases h : (0 ≤ a ∧ a ≤ s.size) ∧ (0 ≤ b ∧ b ≤ s.size)
    · obtain ⟨n, rfl⟩ : ∃ n : Nat, a = n := ⟨a.toNat, by omega⟩
      obtain ⟨m, rfl⟩ : ∃ m : Nat, b = m := ⟨b.toNat, by omega⟩
      refine rises_1 s n m _ _ _ _ hl (by omega) (by omega) rfl rfl rfl rfl ?_ w ht
      rcases rises_ways (nlS s) n m with h | h | h | h | h
      · exact .inl h
      · exact .inr (.inl h)
      · exact .inr (.inr (.inl ⟨h, by rw [h], by rw [h]⟩))
      · exact .inr (.inr (.inr (.inl h)))
      · exact .inr (.inr (.inr (.inr h)))
    · exact rises_out s a b hl ha hb (Decidable.not_and_iff_or_not.1 h) w ht
  · exact rises_long s a b (by omega) hm w ht

/-! ### PosBack -/
theorem back_long (s : ByteArray) (a u v : Int) (hl : 1000 < s.size) (hm : s.size ≤ maxLen) (w : World) (ht : Pow10 w) :
    Calls Tryd.prog 4 #[.string s, .int .i64 a, .agg #[.int .i64 u, .int .i64 v]] w fun e w' => e = .returned (.bool true) ∧ Below w.heap.size w w' := by
  have HT := Lib.hid ht
  clear ht
  unfold maxLen at hm
  have hB := Lib.hid ((Below.refl w.heap.size w).alloc (Nat.le_refl _) (.cells #[.int .i64 u, .int .i64 v] 23))
  go_enter Tryd.func4, Tryd.ntmps4
  go_wp2_with (go_at_call 6; refine (knows_any _ (HT.out.on hB.out)).mono ?_; rintro e w1 ⟨rfl, h1⟩; have B1 := Lib.hid (below_then hB.out h1); clear h1)
  go_ret
  exact ⟨rfl, B1.out⟩
theorem kept_new {w1 w2 : World} {o : Obj} (h2 : Below (w1.alloc o).heap.size (w1.alloc o) w2) : w2.heap[w1.heap.size]? = some o := (h2.block _ (by simp)).trans (heap_new _ _)
theorem kept_old {w2 w3 : World} {B : Nat} {o : Obj} (h : Below w2.heap.size w2 w3) (g : w2.heap[B]? = some o) : w3.heap[B]? = some o := (h.block _ (Array.getElem?_eq_some_iff.1 g).1).trans g
set_option maxHeartbeats 4000000 in
/-- Of inverts At, or the place is none; At inverts Of, or the spot is none. -/
theorem back_1 (s : ByteArray) (a u v : Int) (hl : s.size ≤ 1000) (ha : R64 a) (hu : R64 u) (hv : R64 v) (w : World) (ht : Pow10 w)
    (h : (∃ n : Nat, a = n ∧ n ≤ s.size ∧ ∃ b c, (∀ w, Calls Tryd.prog 7 #[.string s, .int .i64 n] w fun e W' => e = .returned (.tuple #[.agg #[.int .i64 b, .int .i64 c], .bool true]) ∧ Below w.heap.size w W') ∧
        (∀ w, Calls Tryd.prog 9 #[.string s, .agg #[.int .i64 b, .int .i64 c]] w fun e W' => e = .returned (.tuple #[.int .i64 n, .bool true]) ∧ Below w.heap.size w W')) ∨ ((a < 0 ∨ (s.size : Int) < a) ∧ ¬ (0 ≤ a ∧ a ≤ s.size)))
    (k : (∃ m : Nat, (∀ w, Calls Tryd.prog 9 #[.string s, .agg #[.int .i64 u, .int .i64 v]] w fun e W' => e = .returned (.tuple #[.int .i64 m, .bool true]) ∧ Below w.heap.size w W') ∧
        (∀ w, Calls Tryd.prog 7 #[.string s, .int .i64 m] w fun e W' => e = .returned (.tuple #[.agg #[.int .i64 u, .int .i64 v], .bool true]) ∧ Below w.heap.size w W')) ∨
      (∀ w, Calls Tryd.prog 9 #[.string s, .agg #[.int .i64 u, .int .i64 v]] w fun e W' => e = .returned (.tuple #[.int .i64 0, .bool false]) ∧ Below w.heap.size w W')) :
    Calls Tryd.prog 4 #[.string s, .int .i64 a, .agg #[.int .i64 u, .int .i64 v]] w fun e w' => e = .returned (.bool true) ∧ Below w.heap.size w w' := by
  have HT := Lib.hid ht
  have HA := Lib.hid ha
  have hB0 := Lib.hid ((Below.refl w.heap.size w).alloc (Nat.le_refl _) (.cells #[.int .i64 u, .int .i64 v] 23))
  clear ht ha hu hv
  have e1 : ((u == u) = true) := by simp
  rcases h with ⟨n, rfl, hn, b, c, A1, O1⟩ | ⟨h, hno⟩
  · have HA1 := Lib.hid A1
    have HO1 := Lib.hid O1
    clear A1 O1
    rcases k with ⟨m, O2, A2⟩ | O2
    · have HA2 := Lib.hid A2
      have HO2 := Lib.hid O2
      clear A2 O2
      go_enter Tryd.func4, Tryd.ntmps4
      go_wp2_with (first
        | (go_at_call 7; (with_reducible refine (HA1.out _).mono ?_); rintro e w1 ⟨rfl, h1⟩; obtain ⟨hc1, hf1⟩ := bcell h1; have z1 : w.heap.size < w1.heap.size := (by have := h1.size; simp at this; omega); have B1 := Lib.hid (below_then hB0.out h1); clear h1 HA1)
        | (go_at_call 9; (with_reducible refine (HO1.out _).mono ?_); rintro e w2 ⟨rfl, h2⟩; obtain ⟨hc2, hf2⟩ := bcell h2; have z2 : w1.heap.size < w2.heap.size := (by have := h2.size; simp at this; omega); have y2 : w.heap.size < w2.heap.size := (by omega); have B2 := Lib.hid (below_then (B1.out.alloc B1.out.size _) h2); clear h2 HO1)
        | (go_at_call 9; (with_reducible refine (HO2.out _).mono ?_); rintro e w3 ⟨rfl, h3⟩; obtain ⟨hc3, hf3⟩ := bcell h3; have y3 : w.heap.size < w3.heap.size := (by have := h3.size; omega); have B3 := Lib.hid (below_then B2.out h3); clear h3)
        | (go_at_call 7; (with_reducible refine (HA2.out _).mono ?_); rintro e w4 ⟨rfl, h4⟩; obtain ⟨hc4, hf4⟩ := bcell h4; have y4 : w.heap.size < w4.heap.size := (by have := h4.size; omega); have B4 := Lib.hid (below_then B3.out h4); clear h4)
        | (go_at_call 6; refine (knows_any _ (HT.out.on (B4.out.alloc B4.out.size _))).mono ?_; rintro e w5 ⟨rfl, h5⟩; have B5 := Lib.hid (below_then (B4.out.alloc B4.out.size _) h5); clear h5))
      all_goals go_ret
      all_goals exact ⟨rfl, B5.out⟩
    · have HO2 := Lib.hid O2
      clear O2
      go_enter Tryd.func4, Tryd.ntmps4
      go_wp2_with (first
        | (go_at_call 7; (with_reducible refine (HA1.out _).mono ?_); rintro e w1 ⟨rfl, h1⟩; obtain ⟨hc1, hf1⟩ := bcell h1; have z1 : w.heap.size < w1.heap.size := (by have := h1.size; simp at this; omega); have B1 := Lib.hid (below_then hB0.out h1); clear h1 HA1)
        | (go_at_call 9; (with_reducible refine (HO1.out _).mono ?_); rintro e w2 ⟨rfl, h2⟩; obtain ⟨hc2, hf2⟩ := bcell h2; have z2 : w1.heap.size < w2.heap.size := (by have := h2.size; simp at this; omega); have y2 : w.heap.size < w2.heap.size := (by omega); have B2 := Lib.hid (below_then (B1.out.alloc B1.out.size _) h2); clear h2 HO1)
        | (go_at_call 9; (with_reducible refine (HO2.out _).mono ?_); rintro e w3 ⟨rfl, h3⟩; obtain ⟨hc3, hf3⟩ := bcell h3; have y3 : w.heap.size < w3.heap.size := (by have := h3.size; omega); have B3 := Lib.hid (below_then B2.out h3); clear h3)
        | (go_at_call 6; refine (knows_any _ (HT.out.on B3.out)).mono ?_; rintro e w5 ⟨rfl, h5⟩; have B5 := Lib.hid (below_then B3.out h5); clear h5))
      all_goals go_ret
      all_goals exact ⟨rfl, B5.out⟩
  · have HA1 := Lib.hid (fun w => at_no s hl a HA.out hno w)
    clear hno HA
    rcases k with ⟨m, O2, A2⟩ | O2
    · have HA2 := Lib.hid A2
      have HO2 := Lib.hid O2
      clear A2 O2
      rcases h with h | h
      all_goals
        go_enter Tryd.func4, Tryd.ntmps4
        go_wp2_with (first
          | (go_at_call 7; (with_reducible refine (HA1.out _).mono ?_); rintro e w1 ⟨rfl, h1⟩; obtain ⟨hc1, hf1⟩ := bcell h1; have z1 : w.heap.size < w1.heap.size := (by have := h1.size; simp at this; omega); have B1 := Lib.hid (below_then hB0.out h1); clear h1 HA1)
          | (go_at_call 9; (with_reducible refine (HO2.out _).mono ?_); rintro e w3 ⟨rfl, h3⟩; obtain ⟨hc3, hf3⟩ := bcell h3; have y3 : w.heap.size < w3.heap.size := (by have := h3.size; simp at this; omega); have B3 := Lib.hid (below_then (B1.out.alloc B1.out.size _) h3); clear h3)
          | (go_at_call 7; (with_reducible refine (HA2.out _).mono ?_); rintro e w4 ⟨rfl, h4⟩; obtain ⟨hc4, hf4⟩ := bcell h4; have y4 : w.heap.size < w4.heap.size := (by have := h4.size; omega); have B4 := Lib.hid (below_then B3.out h4); clear h4)
          | (go_at_call 6; refine (knows_any _ (HT.out.on (B4.out.alloc B4.out.size _))).mono ?_; rintro e w5 ⟨rfl, h5⟩; have B5 := Lib.hid (below_then (B4.out.alloc B4.out.size _) h5); clear h5))
        all_goals go_ret
        all_goals exact ⟨rfl, B5.out⟩
    · have HO2 := Lib.hid O2
      clear O2
      rcases h with h | h
      all_goals
        go_enter Tryd.func4, Tryd.ntmps4
        go_wp2_with (first
          | (go_at_call 7; (with_reducible refine (HA1.out _).mono ?_); rintro e w1 ⟨rfl, h1⟩; obtain ⟨hc1, hf1⟩ := bcell h1; have z1 : w.heap.size < w1.heap.size := (by have := h1.size; simp at this; omega); have B1 := Lib.hid (below_then hB0.out h1); clear h1 HA1)
          | (go_at_call 9; (with_reducible refine (HO2.out _).mono ?_); rintro e w3 ⟨rfl, h3⟩; obtain ⟨hc3, hf3⟩ := bcell h3; have y3 : w.heap.size < w3.heap.size := (by have := h3.size; simp at this; omega); have B3 := Lib.hid (below_then (B1.out.alloc B1.out.size _) h3); clear h3)
          | (go_at_call 6; refine (knows_any _ (HT.out.on B3.out)).mono ?_; rintro e w5 ⟨rfl, h5⟩; have B5 := Lib.hid (below_then B3.out h5); clear h5))
        all_goals go_ret
        all_goals exact ⟨rfl, B5.out⟩
theorem r64_nat {n : Nat} (h : n ≤ 2000) : R64 n := by unfold R64; omega
/-- **PosBack.** -/
theorem back_run (s : ByteArray) (a u v : Int) (hm : s.size ≤ maxLen) (ha : R64 a) (hu : R64 u) (hv : R64 v) (w : World) (ht : Pow10 w) :
    Calls Tryd.prog 4 #[.string s, .int .i64 a, .agg #[.int .i64 u, .int .i64 v]] w fun e w' => e = .returned (.bool true) ∧ Below w.heap.size w w' := by
  by_cases hl : s.size ≤ 1000
  · refine back_1 s a u v hl ha hu hv w ht ?_ ?_
    · by_cases h : 0 ≤ a ∧ a ≤ s.size
      · obtain ⟨n, rfl⟩ : ∃ n : Nat, a = n := ⟨a.toNat, by omega⟩
        have hn : n ≤ s.size := by omega
        have l1 := ln_le (nl := nlS s) n
        have l2 := cl_le (nl := nlS s) n
        exact .inl ⟨n, rfl, hn, _, _, fun w => at_yes s hl n hn w, fun w => of_yes s hl _ _ (r64_nat (by omega)) (r64_nat (by omega)) n ⟨hn, rfl, rfl⟩ w⟩
      · exact .inr ⟨by omega, h⟩
    · by_cases h : ∃ k, SpotAt (nlS s) s.size u v k
      · obtain ⟨k, hk⟩ := h
        exact .inl ⟨k, fun w => of_yes s hl u v hu hv k hk w, fun w => by rw [hk.2.1, hk.2.2]; exact at_yes s hl k hk.1 w⟩
      · exact .inr (fun w => of_no s hl u v hu hv (fun k hk => h ⟨k, hk⟩) w)
  · exact back_long s a u v (by omega) hm w ht

/-! ### PosTells -/
theorem tells_long (s : ByteArray) (a u v : Int) (hl : 1000 < s.size) (hm : s.size ≤ maxLen) (w : World) (ht : Pow10 w) :
    Calls Tryd.prog 3 #[.string s, .int .i64 a, .agg #[.int .i64 u, .int .i64 v]] w fun e w' => e = .returned (.bool true) ∧ Below w.heap.size w w' := by
  have HT := Lib.hid ht
  clear ht
  unfold maxLen at hm
  have hB := Lib.hid ((Below.refl w.heap.size w).alloc (Nat.le_refl _) (.cells #[.int .i64 u, .int .i64 v] 23))
  go_enter Tryd.func3, Tryd.ntmps3
  go_wp2_with (go_at_call 6; refine (knows_any _ (HT.out.on hB.out)).mono ?_; rintro e w1 ⟨rfl, h1⟩; have B1 := Lib.hid (below_then hB.out h1); clear h1)
  go_ret
  exact ⟨rfl, B1.out⟩
set_option maxHeartbeats 8000000 in
theorem tells_1 (s : ByteArray) (a u v x y z : Int) (p q : Bool) (hl : s.size ≤ 1000) (hu : R64 u) (hv : R64 v) (w : World) (ht : Pow10 w)
    (A1 : ∀ w, Calls Tryd.prog 7 #[.string s, .int .i64 a] w fun e W' => e = .returned (.tuple #[.agg #[.int .i64 x, .int .i64 y], .bool p]) ∧ Below w.heap.size w W')
    (A2 : ∀ w, Calls Tryd.prog 8 #[.string s, .int .i64 a] w fun e W' => e = .returned (.tuple #[.agg #[.int .i64 x, .int .i64 y], .bool p]) ∧ Below w.heap.size w W')
    (O1 : ∀ w, Calls Tryd.prog 9 #[.string s, .agg #[.int .i64 u, .int .i64 v]] w fun e W' => e = .returned (.tuple #[.int .i64 z, .bool q]) ∧ Below w.heap.size w W')
    (O2 : ∀ w, Calls Tryd.prog 10 #[.string s, .agg #[.int .i64 u, .int .i64 v]] w fun e W' => e = .returned (.tuple #[.int .i64 z, .bool q]) ∧ Below w.heap.size w W') :
    Calls Tryd.prog 3 #[.string s, .int .i64 a, .agg #[.int .i64 u, .int .i64 v]] w fun e w' => e = .returned (.bool true) ∧ Below w.heap.size w w' := by
  have HT := Lib.hid ht
  have HU := Lib.hid hu
  have HV := Lib.hid hv
  have hB0 := Lib.hid ((Below.refl w.heap.size w).alloc (Nat.le_refl _) (.cells #[.int .i64 u, .int .i64 v] 23))
  have HA1 := Lib.hid A1
  have HA2 := Lib.hid A2
  have HO1 := Lib.hid O1
  have HO2 := Lib.hid O2
  clear ht hu hv A1 A2 O1 O2
  go_enter Tryd.func3, Tryd.ntmps3
  go_upto_region 7 with (first
    | (go_at_call 7; refine (HA1.out _).mono ?_; rintro e w1 ⟨rfl, h1⟩; obtain ⟨hc1, hf1⟩ := bcell h1; have z1 : w.heap.size < w1.heap.size := (by have := h1.size; simp at this; omega); have G1 := Lib.hid (kept_new h1); have B1 := Lib.hid (below_then hB0.out h1); clear h1)
    | (go_at_call 8; refine (HA2.out _).mono ?_; rintro e w2 ⟨rfl, h2⟩; obtain ⟨hc2, hf2⟩ := bcell h2; have z2 : w1.heap.size < w2.heap.size := (by have := h2.size; simp at this; omega); have y2 : w.heap.size < w2.heap.size := (by omega); have G2 := Lib.hid (And.intro (kept_old h2 (heap_old _ G1.out)) (kept_new h2)); have B2 := Lib.hid (below_then (B1.out.alloc B1.out.size _) h2); clear h2)
    | (go_at_call 9; refine (HO1.out _).mono ?_; rintro e w3 ⟨rfl, h3⟩; obtain ⟨hc3, hf3⟩ := bcell h3; have y3 : w.heap.size < w3.heap.size := (by have := h3.size; simp at this; omega); have G3 := Lib.hid (And.intro (kept_old h3 (heap_old _ G2.out.1)) (And.intro (kept_old h3 (heap_old _ G2.out.2)) (kept_new h3))); have B3 := Lib.hid (below_then (B2.out.alloc B2.out.size _) h3); clear h3)
    | (go_at_call 10; refine (HO2.out _).mono ?_; rintro e w4 ⟨rfl, h4⟩; obtain ⟨hc4, hf4⟩ := bcell h4; have y4 : w.heap.size < w4.heap.size := (by have := h4.size; omega); have G4 := Lib.hid (And.intro (kept_old h4 G3.out.1) (And.intro (kept_old h4 G3.out.2.1) (kept_old h4 G3.out.2.2))); have B4 := Lib.hid (below_then B3.out h4); clear h4))
  clear hc1 hc2 hc3 hc4 hf1 hf2 hf3 hf4 z1 z2 y2 y3 y4 G1 G2 G3 B1 B2 B3 HA1 HA2 HO1 HO2 hB0
  have HP := Lib.hid (HT.out.on B4.out)
  generalize w1.heap.size = b1 at *
  generalize w2.heap.size = b2 at *
  have HC := Lib.hid (fun (W : World) (hB : Below w4.heap.size w4 W) => And.intro (spot_kept hB G4.out.1) (And.intro (spot_kept hB G4.out.2.1) (spot_kept hB G4.out.2.2)))
  clear G4
  refine wp_region_S (fun w' => Below w4.heap.size w4 w') (by kernel_rfl) (drew1_below (Below.refl _ _)) ?_
  refine wpS_take (v := ?_) (a' := ?_) 0 rfl (by kernel_rfl) (by kernel_rfl) (by kernel_rfl) ?_ ?_ ?_
  rotate_left 2
  · refine stepS_yield (by kernel_rfl) ?_; intro wS hS; obtain ⟨⟨x0, x1⟩, ⟨x2, x3⟩, x4, x5⟩ := HC.out _ hS; go_simp; with_reducible rfl
  · go_simp; with_reducible rfl
  refine wpS_take (v := ?_) (a' := ?_) 1 rfl (by kernel_rfl) (by kernel_rfl) (by kernel_rfl) ?_ ?_ ?_
  rotate_left 2
  · refine stepS_yield (by kernel_rfl) ?_; intro wS hS; obtain ⟨⟨x0, x1⟩, ⟨x2, x3⟩, x4, x5⟩ := HC.out _ hS; go_simp; with_reducible rfl
  · go_simp; with_reducible rfl
  refine wpS_take (v := ?_) (a' := ?_) 2 rfl (by kernel_rfl) (by kernel_rfl) (by kernel_rfl) ?_ ?_ ?_
  rotate_left 2
  · refine stepS_yield (by kernel_rfl) ?_; intro wS hS; obtain ⟨⟨x0, x1⟩, ⟨x2, x3⟩, x4, x5⟩ := HC.out _ hS; go_simp; with_reducible rfl
  · go_simp; with_reducible rfl
  refine wpS_take (v := ?_) (a' := ?_) 3 rfl (by kernel_rfl) (by kernel_rfl) (by kernel_rfl) ?_ ?_ ?_
  rotate_left 2
  · refine stepS_yield (by kernel_rfl) ?_; intro wS hS; obtain ⟨⟨x0, x1⟩, ⟨x2, x3⟩, x4, x5⟩ := HC.out _ hS; go_simp; with_reducible rfl
  · go_simp; with_reducible rfl
  refine wpS_take (v := ?_) (a' := ?_) 4 rfl (by kernel_rfl) (by kernel_rfl) (by kernel_rfl) ?_ ?_ ?_
  rotate_left 2
  · refine stepS_yield (by kernel_rfl) ?_; intro wS hS; obtain ⟨⟨x0, x1⟩, ⟨x2, x3⟩, x4, x5⟩ := HC.out _ hS; go_simp; with_reducible rfl
  · go_simp; with_reducible rfl
  refine wpS_take (v := ?_) (a' := ?_) 5 rfl (by kernel_rfl) (by kernel_rfl) (by kernel_rfl) ?_ ?_ ?_
  rotate_left 2
  · refine stepS_yield (by kernel_rfl) ?_; intro wS hS; obtain ⟨⟨x0, x1⟩, ⟨x2, x3⟩, x4, x5⟩ := HC.out _ hS; go_simp; with_reducible rfl
  · go_simp; with_reducible rfl
  refine wpS_take (v := ?_) (a' := ?_) 6 rfl (by kernel_rfl) (by kernel_rfl) (by kernel_rfl) ?_ ?_ ?_
  rotate_left 2
  · refine stepS_yield (by kernel_rfl) ?_; intro wS hS; obtain ⟨⟨x0, x1⟩, ⟨x2, x3⟩, x4, x5⟩ := HC.out _ hS; go_simp; with_reducible rfl
  · go_simp; with_reducible rfl
  refine wpS_take (v := ?_) (a' := ?_) 7 rfl (by kernel_rfl) (by kernel_rfl) (by kernel_rfl) ?_ ?_ ?_
  rotate_left 2
  · refine stepS_yield (by kernel_rfl) ?_; intro wS hS; obtain ⟨⟨x0, x1⟩, ⟨x2, x3⟩, x4, x5⟩ := HC.out _ hS; go_simp; with_reducible rfl
  · go_simp; with_reducible rfl
  refine wpS_take (v := ?_) (a' := ?_) 8 rfl (by kernel_rfl) (by kernel_rfl) (by kernel_rfl) ?_ ?_ ?_
  rotate_left 2
  · refine stepS_yield (by kernel_rfl) ?_; intro wS hS; obtain ⟨⟨x0, x1⟩, ⟨x2, x3⟩, x4, x5⟩ := HC.out _ hS; go_simp; with_reducible rfl
  · go_simp; with_reducible rfl
  refine wpS_take (v := ?_) (a' := ?_) 9 rfl (by kernel_rfl) (by kernel_rfl) (by kernel_rfl) ?_ ?_ ?_
  rotate_left 2
  · refine stepS_yield (by kernel_rfl) ?_; intro wS hS; obtain ⟨⟨x0, x1⟩, ⟨x2, x3⟩, x4, x5⟩ := HC.out _ hS; go_simp; with_reducible rfl
  · go_simp; with_reducible rfl
  refine wpS_take (v := ?_) (a' := ?_) 10 rfl (by kernel_rfl) (by kernel_rfl) (by kernel_rfl) ?_ ?_ ?_
  rotate_left 2
  · refine stepS_yield (by kernel_rfl) ?_; intro wS hS; obtain ⟨⟨x0, x1⟩, ⟨x2, x3⟩, x4, x5⟩ := HC.out _ hS; go_simp; with_reducible rfl
  · go_simp; with_reducible rfl
  refine wpS_take (v := ?_) (a' := ?_) 11 rfl (by kernel_rfl) (by kernel_rfl) (by kernel_rfl) ?_ ?_ ?_
  rotate_left 2
  · refine stepS_yield (by kernel_rfl) ?_; intro wS hS; obtain ⟨⟨x0, x1⟩, ⟨x2, x3⟩, x4, x5⟩ := HC.out _ hS; go_simp; with_reducible rfl
  · go_simp; with_reducible rfl
  refine wpS_take (v := ?_) (a' := ?_) 12 rfl (by kernel_rfl) (by kernel_rfl) (by kernel_rfl) ?_ ?_ ?_
  rotate_left 2
  · refine stepS_yield (by kernel_rfl) ?_; intro wS hS; obtain ⟨⟨x0, x1⟩, ⟨x2, x3⟩, x4, x5⟩ := HC.out _ hS; go_simp; with_reducible rfl
  · go_simp; with_reducible rfl
  refine wpS_take (v := ?_) (a' := ?_) 13 rfl (by kernel_rfl) (by kernel_rfl) (by kernel_rfl) ?_ ?_ ?_
  rotate_left 2
  · refine stepS_yield (by kernel_rfl) ?_; intro wS hS; obtain ⟨⟨x0, x1⟩, ⟨x2, x3⟩, x4, x5⟩ := HC.out _ hS; go_simp; with_reducible rfl
  · go_simp; with_reducible rfl
  refine wpS_take (v := ?_) (a' := ?_) 14 rfl (by kernel_rfl) (by kernel_rfl) (by kernel_rfl) ?_ ?_ ?_
  rotate_left 2
  · refine stepS_yield (by kernel_rfl) ?_; intro wS hS; obtain ⟨⟨x0, x1⟩, ⟨x2, x3⟩, x4, x5⟩ := HC.out _ hS; go_simp; with_reducible rfl
  · go_simp; with_reducible rfl
  refine wpS_take (v := ?_) (a' := ?_) 15 rfl (by kernel_rfl) (by kernel_rfl) (by kernel_rfl) ?_ ?_ ?_
  rotate_left 2
  · refine stepS_yield (by kernel_rfl) ?_; intro wS hS; obtain ⟨⟨x0, x1⟩, ⟨x2, x3⟩, x4, x5⟩ := HC.out _ hS; go_simp; with_reducible rfl
  · go_simp; with_reducible rfl
  refine wpS_take (v := ?_) (a' := ?_) 16 rfl (by kernel_rfl) (by kernel_rfl) (by kernel_rfl) ?_ ?_ ?_
  rotate_left 2
  · refine stepS_yield (by kernel_rfl) ?_; intro wS hS; obtain ⟨⟨x0, x1⟩, ⟨x2, x3⟩, x4, x5⟩ := HC.out _ hS; go_simp; with_reducible rfl
  · go_simp; with_reducible rfl
  refine wpS_take (v := ?_) (a' := ?_) 17 rfl (by kernel_rfl) (by kernel_rfl) (by kernel_rfl) ?_ ?_ ?_
  rotate_left 2
  · refine stepS_yield (by kernel_rfl) ?_; intro wS hS; obtain ⟨⟨x0, x1⟩, ⟨x2, x3⟩, x4, x5⟩ := HC.out _ hS; go_simp; with_reducible rfl
  · go_simp; with_reducible rfl
  refine wpS_take (v := ?_) (a' := ?_) 18 rfl (by kernel_rfl) (by kernel_rfl) (by kernel_rfl) ?_ ?_ ?_
  rotate_left 2
  · refine stepS_yield (by kernel_rfl) ?_; intro wS hS; obtain ⟨⟨x0, x1⟩, ⟨x2, x3⟩, x4, x5⟩ := HC.out _ hS; go_simp; with_reducible rfl
  · go_simp; with_reducible rfl
  refine wpS_take (v := ?_) (a' := ?_) 19 rfl (by kernel_rfl) (by kernel_rfl) (by kernel_rfl) ?_ ?_ ?_
  rotate_left 2
  · refine stepS_yield (by kernel_rfl) ?_; intro wS hS; obtain ⟨⟨x0, x1⟩, ⟨x2, x3⟩, x4, x5⟩ := HC.out _ hS; go_simp; with_reducible rfl
  · go_simp; with_reducible rfl
  refine wpS_take (v := ?_) (a' := ?_) 20 rfl (by kernel_rfl) (by kernel_rfl) (by kernel_rfl) ?_ ?_ ?_
  rotate_left 2
  · apply stepS_call (by kernel_rfl)
    · intro wS hS; go_simp; with_reducible exact ⟨rfl, rfl⟩
    intro wS hS
    first
      | (with_reducible exact pshow_S u v HU.out HV.out HP.out hS)
      | (with_reducible exact rpshow_S u v HU.out HV.out hS)
      | (with_reducible exact knows_S HP.out hS)
  · go_simp; with_reducible rfl
  refine wpS_take (v := ?_) (a' := ?_) 21 rfl (by kernel_rfl) (by kernel_rfl) (by kernel_rfl) ?_ ?_ ?_
  rotate_left 2
  · refine stepS_yield (by kernel_rfl) ?_; intro wS hS; obtain ⟨⟨x0, x1⟩, ⟨x2, x3⟩, x4, x5⟩ := HC.out _ hS; go_simp; with_reducible rfl
  · go_simp; with_reducible rfl
  refine wpS_take (v := ?_) (a' := ?_) 22 rfl (by kernel_rfl) (by kernel_rfl) (by kernel_rfl) ?_ ?_ ?_
  rotate_left 2
  · apply stepS_call (by kernel_rfl)
    · intro wS hS; go_simp; with_reducible exact ⟨rfl, rfl⟩
    intro wS hS
    first
      | (with_reducible exact pshow_S u v HU.out HV.out HP.out hS)
      | (with_reducible exact rpshow_S u v HU.out HV.out hS)
      | (with_reducible exact knows_S HP.out hS)
  · go_simp; with_reducible rfl
  refine wpS_take (v := ?_) (a' := ?_) 23 rfl (by kernel_rfl) (by kernel_rfl) (by kernel_rfl) ?_ ?_ ?_
  rotate_left 2
  · refine stepS_yield (by kernel_rfl) ?_; intro wS hS; obtain ⟨⟨x0, x1⟩, ⟨x2, x3⟩, x4, x5⟩ := HC.out _ hS; go_simp; with_reducible rfl
  · go_simp; with_reducible rfl
  refine wpS_take (v := ?_) (a' := ?_) 24 rfl (by kernel_rfl) (by kernel_rfl) (by kernel_rfl) ?_ ?_ ?_
  rotate_left 2
  · refine stepS_yield (by kernel_rfl) ?_; intro wS hS; obtain ⟨⟨x0, x1⟩, ⟨x2, x3⟩, x4, x5⟩ := HC.out _ hS; go_simp; with_reducible rfl
  · go_simp; with_reducible rfl
  refine wpS_take (v := ?_) (a' := ?_) 25 rfl (by kernel_rfl) (by kernel_rfl) (by kernel_rfl) ?_ ?_ ?_
  rotate_left 2
  · refine stepS_yield (by kernel_rfl) ?_; intro wS hS; obtain ⟨⟨x0, x1⟩, ⟨x2, x3⟩, x4, x5⟩ := HC.out _ hS; go_simp; with_reducible rfl
  · go_simp; with_reducible rfl
  refine wpS_take (v := ?_) (a' := ?_) 26 rfl (by kernel_rfl) (by kernel_rfl) (by kernel_rfl) ?_ ?_ ?_
  rotate_left 2
  · apply stepS_call (by kernel_rfl)
    · intro wS hS; go_simp; with_reducible exact ⟨rfl, rfl⟩
    intro wS hS
    first
      | (with_reducible exact pshow_S u v HU.out HV.out HP.out hS)
      | (with_reducible exact rpshow_S u v HU.out HV.out hS)
      | (with_reducible exact knows_S HP.out hS)
  · go_simp; with_reducible rfl
  refine wpS_take (v := ?_) (a' := ?_) 27 rfl (by kernel_rfl) (by kernel_rfl) (by kernel_rfl) ?_ ?_ ?_
  rotate_left 2
  · refine stepS_yield (by kernel_rfl) ?_; intro wS hS; obtain ⟨⟨x0, x1⟩, ⟨x2, x3⟩, x4, x5⟩ := HC.out _ hS; go_simp; with_reducible rfl
  · go_simp; with_reducible rfl
  refine wpS_take (v := ?_) (a' := ?_) 28 rfl (by kernel_rfl) (by kernel_rfl) (by kernel_rfl) ?_ ?_ ?_
  rotate_left 2
  · refine stepS_yield (by kernel_rfl) ?_; intro wS hS; obtain ⟨⟨x0, x1⟩, ⟨x2, x3⟩, x4, x5⟩ := HC.out _ hS; go_simp; with_reducible rfl
  · go_simp; with_reducible rfl
  refine wpS_end (by kernel_rfl) ?_
  intro W hS
  go_wp2_with fail
  go_ret
  exact ⟨rfl, B4.out.trans (hS.mono B4.out.size)⟩
theorem fits_spot {s : ByteArray} (hl : s.size ≤ 1000) {k : Nat} (hk : k ≤ s.size) : R64 (k : Int) := r64_nat (by omega)
/-- **PosTells.** -/
theorem tells_run (s : ByteArray) (a u v : Int) (hm : s.size ≤ maxLen) (ha : R64 a) (hu : R64 u) (hv : R64 v) (w : World) (ht : Pow10 w) :
    Calls Tryd.prog 3 #[.string s, .int .i64 a, .agg #[.int .i64 u, .int .i64 v]] w fun e w' => e = .returned (.bool true) ∧ Below w.heap.size w w' := by
  by_cases hl : s.size ≤ 1000
  · have hs : s.size ≤ 4611686018427387904 := by omega
    obtain ⟨x, y, p, hA⟩ : ∃ x y p, ∀ r, AtR s a r → r = .tuple #[.agg #[.int .i64 x, .int .i64 y], .bool p] := by
      by_cases h : 0 ≤ a ∧ a ≤ s.size
      · exact ⟨_, _, true, fun r hr => by
          rcases hr with ⟨_, _, hr⟩ | ⟨hr, _⟩
          · exact hr
          · exact absurd h hr⟩
      · exact ⟨0, 0, false, fun r hr => atR_no h hr⟩
    obtain ⟨z, q, hO⟩ : ∃ z q, ∀ r, OfR s u v r → r = .tuple #[.int .i64 z, .bool q] := by
      by_cases h : ∃ k, SpotAt (nlS s) s.size u v k
      · obtain ⟨k, hk⟩ := h
        exact ⟨k, true, fun r hr => ofR_yes hk hr⟩
      · exact ⟨0, false, fun r hr => ofR_no (fun k hk => h ⟨k, hk⟩) hr⟩
    exact tells_1 s a u v x y z p q hl hu hv w ht
      (fun w => (at_any s hs a ha.1 ha.2 w).mono fun _ _ ⟨r, he, hr, hb⟩ => ⟨by rw [he, hA r hr], hb⟩)
      (fun w => (rat_any s hs a ha.1 ha.2 w).mono fun _ _ ⟨r, he, hr, hb⟩ => ⟨by rw [he, hA r hr], hb⟩)
      (fun w => (of_any s hs u v hu hv w).mono fun _ _ ⟨r, he, hr, hb⟩ => ⟨by rw [he, hO r hr], hb⟩)
      (fun w => (rof_any s hs u v hu hv w).mono fun _ _ ⟨r, he, hr, hb⟩ => ⟨by rw [he, hO r hr], hb⟩)
  · exact tells_long s a u v (by omega) hm w ht
/-- A spot out of its reading. -/
theorem open_spot {H : Type} {enc : TypeId × Value → H} {W : World} {v : Value} {d : DataW H} {p : List MemPlace} (o : Value.okWide Tryd.prog W .any 0 23 v) (r : DataW.Trod enc Tryd.prog W 0 (fun _ => true) true 23 v d p) :
    ∃ x y, v = .agg #[.int .i64 x, .int .i64 y] ∧ R64 x ∧ R64 y := by
  obtain ⟨v0, v1, y0, y1, m, rfl, _, _, h0, h1⟩ := Go.Joins.open_agg2 Tryd.underlying23 (by kernel_rfl) (by kernel_rfl) o r
  obtain ⟨x, e0, _, hx⟩ := DataW.trod_int Tryd.underlying3 h0
  obtain ⟨y, e1, _, hy⟩ := DataW.trod_int Tryd.underlying3 h1
  simp only [List.cons.injEq, and_true] at e0 e1
  subst e0 e1
  exact ⟨x, y, rfl, bounds_i64 hx, bounds_i64 hy⟩
end Go.Proofs.YtnpmipmdffbpdaaDoor
