/-
  CONTRACTS OF THE REFERENCE OF LAYER 2 (Right), AND OF Agree ON BOTH SIDES.
-/
import Derived.Test.YtmcijpdockkjbaaDoorEnds
import Derived.Test.YtmcijpdockkjbaaDoorRWrap
namespace Go.Proofs.YtmcijpdockkjbaaDoor
open Go.ChangeShapes Go.WideShapes Go.ChangeAt Go.RowKit
set_option linter.unusedVariables false
theorem wi_in31 (x : Int) : (wi x != x) = !in31 x := by
  unfold in31 wi
  rw [Bool.eq_iff_iff]
  simp only [bne_iff_ne, ne_eq, Bool.not_eq_true', Bool.and_eq_false_iff, decide_eq_false_iff_not]
  omega
theorem in31_of {x : Int} (h : (wi x != x) = false) : -1073741824 ≤ x ∧ x ≤ 1073741823 := by
  rw [wi_in31] at h; simpa [in31] using h
theorem in31_not {x : Int} (h : (wi x != x) = true) : ¬ (-1073741824 ≤ x ∧ x ≤ 1073741823) := by
  rw [wi_in31] at h; simp [in31] at h; omega
def OutInv (w : World) (xs : List Int) (i : Value) (wr : World) : Prop := ∃ k n : Nat, k ≤ xs.length ∧ i = .int .i64 k ∧ wr = w.drewN n ∧ (xs.take k).all in31 = true
theorem rright_out (k n s : Int) (A : Option Addr) (c : Nat) (xs : List Int) (w : World) {B : Nat} (h : IntsAt w B A xs) (hB : B ≤ w.heap.size) (hl : xs.length ≤ maxLen)
    (k1 : 1 ≤ k) (k6 : k ≤ 6) (n0 : 0 ≤ n) (n1 : n = 0 ∨ k = 2) (s1 : 0 ≤ s) :
    Calls Tryd.prog 8 #[.agg #[.int .i64 k, .int .i64 n, .slice A xs.length c, .int .i64 s]] w fun e w' => e = .returned (.bool (xs.all in31)) ∧ Below w.heap.size w w' := by
  unfold maxLen at hl
  have H := Lib.hid (h.alloc hB (.cells #[.int .i64 k, .int .i64 n, .slice A xs.length c, .int .i64 s] 25))
  clear h
  have n2 : n = 0 ∨ (k = 2 ∧ 0 < n) := by omega
  clear n1
  rcases n2 with rfl | ⟨rfl, n2⟩
  all_goals
    go_enter Tryd.func8, Tryd.ntmps8
    go_wp2
    go_loopw [3] (fun i wr => OutInv (w.alloc (.cells #[.int .i64 _, .int .i64 _, .slice A xs.length c, .int .i64 s] 25)) xs i wr) (fun i _ => xs.length - (intOf i).toNat)
    case atStart => exact ⟨0, 0, Nat.zero_le _, rfl, rfl, rfl⟩
    case round =>
      obtain ⟨j, m, hj, rfl, rfl, hd⟩ := hrel
      have HD := Lib.hid hd
      clear hd
      by_cases hlt : j < xs.length
      · obtain ⟨ad, rfl, hb, hc⟩ := H.out.at_ hlt
        cases hw : (wi xs[j] != xs[j])
        · have hi := in31_of hw
          go_wp2
          go_quiet ((go_at_call 16; exact quiet_add_left (rwrap_any _ _)))
          go_wp2
          go_roundw
          case rel => exact ⟨j + 1, _, by omega, by go_num, rfl, take_in hlt HD.out hi.1 hi.2⟩
          case measure => simp [intOf]; omega
        · have hi := Lib.hid (in31_not hw)
          go_wp2
          go_quiet ((go_at_call 16; exact quiet_add_left (rwrap_any _ _)))
          go_wp2
          go_ret
          exact ⟨ret_bool (not_in hlt hi.out).symm, below_drewN (below_drewN (below_new _ _) _) _⟩
      · go_wp2
        go_ret
        exact ⟨ret_bool (by have := HD.out; rw [List.take_of_length_le (by omega)] at this; exact this.symm), below_drewN (below_new _ _) _⟩
theorem rright_any (k n s : Int) (A : Option Addr) (c : Nat) (xs : List Int) (w : World) {B : Nat} (h : IntsAt w B A xs) (hB : B ≤ w.heap.size) (hl : xs.length ≤ maxLen) :
    Calls Tryd.prog 8 #[.agg #[.int .i64 k, .int .i64 n, .slice A xs.length c, .int .i64 s]] w fun e w' => e = .returned (.bool (rightB k n s xs)) ∧ Below w.heap.size w w' := by
  by_cases k1 : 1 ≤ k ∧ k ≤ 6
  · by_cases n1 : 0 ≤ n ∧ (n = 0 ∨ k = 2)
    · by_cases s1 : 0 ≤ s
      · rw [right_i k1 n1 s1]
        exact rright_out k n s A c xs w h hB hl k1.1 k1.2 n1.1 n1.2 s1
      · have e := Lib.hid (right_s (k := k) (n := n) (xs := xs) s1)
        obtain ⟨k1, k6⟩ := k1
        obtain ⟨n0, n1⟩ := n1
        have n2 : n = 0 ∨ (k = 2 ∧ 0 < n) := by omega
        clear n1 h
        rcases n2 with rfl | ⟨rfl, n2⟩
        all_goals
          go_enter Tryd.func8, Tryd.ntmps8
          go_wp2
          go_ret
          exact ⟨ret_bool e.out.symm, below_new _ _⟩
    · have e := Lib.hid (right_n (s := s) (xs := xs) n1)
      have h0 : n < 0 ∨ (0 < n ∧ (k != 2) = true) := by
        by_cases h0 : n < 0
        · exact .inl h0
        · exact .inr ⟨by omega, by simp; omega⟩
      obtain ⟨k1, k6⟩ := k1
      clear n1 h
      rcases h0 with h0 | ⟨h0, h2⟩
      all_goals
        go_enter Tryd.func8, Tryd.ntmps8
        go_wp2
        go_ret
        exact ⟨ret_bool e.out.symm, below_new _ _⟩
  · have e := Lib.hid (right_k (n := n) (s := s) (xs := xs) k1)
    clear h
    by_cases k1 : k < 1
    · go_enter Tryd.func8, Tryd.ntmps8
      go_wp2
      go_ret
      exact ⟨ret_bool e.out.symm, below_new _ _⟩
    · have k6 : 6 < k := by omega
      go_enter Tryd.func8, Tryd.ntmps8
      go_wp2
      go_ret
      exact ⟨ret_bool e.out.symm, below_new _ _⟩

/-! ### Agree -/
def agreeB (k n s : Int) (xs : List Int) (k' n' s' : Int) (ys : List Int) : Bool :=
  rightB k n s xs && rightB k' n' s' ys && (if k = 4 ∨ k' = 4 then sameB k n xs k' n' ys else (cutB k && begB ys xs) || (cutB k' && begB xs ys) || sameB k n xs k' n' ys)

section
variable (k n s k' n' s' : Int) (A D : Option Addr) (c d : Nat) (xs ys : List Int) (w : World)
/-- Both ends' outputs read so in each world that has grown out of w. -/
def Both : Prop := ∀ W, Below w.heap.size w W → IntsAt W w.heap.size A xs ∧ IntsAt W w.heap.size D ys ∧ w.heap.size ≤ W.heap.size
variable {A D xs ys w}
theorem both_mk {B : Nat} (hx : IntsAt w B A xs) (hy : IntsAt w B D ys) (hB : B ≤ w.heap.size) : Both A D xs ys w := fun W h => ⟨(hx.more hB).below h, (hy.more hB).below h, h.size⟩
theorem both_on {W : World} (h : Both A D xs ys w) (hW : Below w.heap.size w W) : Both A D xs ys W := fun V hV => by
  have h' := h V (below_then hW hV)
  exact ⟨h'.1.more hW.size, h'.2.1.more hW.size, hV.size⟩
set_option linter.unusedSectionVars false
variable (HB : Both A D xs ys w) (lx : xs.length ≤ maxLen) (ly : ys.length ≤ maxLen) (lc : xs.length ≤ c) (mc : c ≤ maxLen) (ld : ys.length ≤ d) (md : d ≤ maxLen)
section
variable {W : World} (hW : Below w.heap.size w W)
include HB hW
theorem begins1 (lx : xs.length ≤ maxLen) (ly : ys.length ≤ maxLen) (ld : ys.length ≤ d) (md : d ≤ maxLen) : Calls Tryd.prog 20 #[.slice A xs.length c, .slice D ys.length d] W fun e w' => e = .returned (.bool (begB ys xs)) ∧ Below w.heap.size w w' :=
  (begins_any A D c d xs ys W (HB W hW).1 (HB W hW).2.1 lx ly ld md).mono fun _ _ ⟨he, n, hw⟩ => ⟨he, by rw [hw]; exact below_drewN hW n⟩
theorem begins2 (lx : xs.length ≤ maxLen) (ly : ys.length ≤ maxLen) (lc : xs.length ≤ c) (mc : c ≤ maxLen) : Calls Tryd.prog 20 #[.slice D ys.length d, .slice A xs.length c] W fun e w' => e = .returned (.bool (begB xs ys)) ∧ Below w.heap.size w w' :=
  (begins_any D A d c ys xs W (HB W hW).2.1 (HB W hW).1 ly lx lc mc).mono fun _ _ ⟨he, n, hw⟩ => ⟨he, by rw [hw]; exact below_drewN hW n⟩
theorem rbegins1 (lx : xs.length ≤ maxLen) (ly : ys.length ≤ maxLen) : Calls Tryd.prog 22 #[.slice D ys.length d, .slice A xs.length c] W fun e w' => e = .returned (.bool (begB ys xs)) ∧ Below w.heap.size w w' :=
  (rbegins_any D A d c ys xs W (HB W hW).2.1 (HB W hW).1 ly lx).mono fun _ _ ⟨he, n, hw⟩ => ⟨he, by rw [hw]; exact below_drewN hW n⟩
theorem rbegins2 (lx : xs.length ≤ maxLen) (ly : ys.length ≤ maxLen) : Calls Tryd.prog 22 #[.slice A xs.length c, .slice D ys.length d] W fun e w' => e = .returned (.bool (begB xs ys)) ∧ Below w.heap.size w w' :=
  (rbegins_any A D c d xs ys W (HB W hW).1 (HB W hW).2.1 lx ly).mono fun _ _ ⟨he, n, hw⟩ => ⟨he, by rw [hw]; exact below_drewN hW n⟩
end
theorem cut1 (_ : Both A D xs ys w) {W : World} (hW : Below w.heap.size w W) (O : Value) : Calls Tryd.prog 19 #[.agg #[.int .i64 k, .int .i64 n, O, .int .i64 s]] W fun e w' => e = .returned (.bool (cutB k)) ∧ Below w.heap.size w w' :=
  (cut_any k n s O W).mono fun _ _ ⟨he, hb⟩ => ⟨he, hW.trans (hb.mono hW.size)⟩
theorem rcut1 (_ : Both A D xs ys w) {W : World} (hW : Below w.heap.size w W) (O : Value) : Calls Tryd.prog 21 #[.agg #[.int .i64 k, .int .i64 n, O, .int .i64 s]] W fun e w' => e = .returned (.bool (cutB k)) ∧ Below w.heap.size w w' :=
  (rcut_any k n s O W).mono fun _ _ ⟨he, hb⟩ => ⟨he, hW.trans (hb.mono hW.size)⟩
section
variable {W : World} (hW : Below w.heap.size w W)
include HB hW
theorem right1 (lx : xs.length ≤ maxLen) : Calls Tryd.prog 7 #[.agg #[.int .i64 k, .int .i64 n, .slice A xs.length c, .int .i64 s]] W fun e w' => e = .returned (.bool (rightB k n s xs)) ∧ Below w.heap.size w w' ∧ Below W.heap.size W w' :=
  (right_any k n s A c xs W (HB W hW).1 (HB W hW).2.2 lx).mono fun _ _ ⟨he, hb⟩ => ⟨he, hW.trans (hb.mono hW.size), hb⟩
theorem right2 (ly : ys.length ≤ maxLen) : Calls Tryd.prog 7 #[.agg #[.int .i64 k', .int .i64 n', .slice D ys.length d, .int .i64 s']] W fun e w' => e = .returned (.bool (rightB k' n' s' ys)) ∧ Below w.heap.size w w' ∧ Below W.heap.size W w' :=
  (right_any k' n' s' D d ys W (HB W hW).2.1 (HB W hW).2.2 ly).mono fun _ _ ⟨he, hb⟩ => ⟨he, hW.trans (hb.mono hW.size), hb⟩
theorem rright1 (lx : xs.length ≤ maxLen) : Calls Tryd.prog 8 #[.agg #[.int .i64 k, .int .i64 n, .slice A xs.length c, .int .i64 s]] W fun e w' => e = .returned (.bool (rightB k n s xs)) ∧ Below w.heap.size w w' ∧ Below W.heap.size W w' :=
  (rright_any k n s A c xs W (HB W hW).1 (HB W hW).2.2 lx).mono fun _ _ ⟨he, hb⟩ => ⟨he, hW.trans (hb.mono hW.size), hb⟩
theorem rright2 (ly : ys.length ≤ maxLen) : Calls Tryd.prog 8 #[.agg #[.int .i64 k', .int .i64 n', .slice D ys.length d, .int .i64 s']] W fun e w' => e = .returned (.bool (rightB k' n' s' ys)) ∧ Below w.heap.size w w' ∧ Below W.heap.size W w' :=
  (rright_any k' n' s' D d ys W (HB W hW).2.1 (HB W hW).2.2 ly).mono fun _ _ ⟨he, hb⟩ => ⟨he, hW.trans (hb.mono hW.size), hb⟩
theorem same1 (lx : xs.length ≤ maxLen) (ly : ys.length ≤ maxLen) : Calls Tryd.prog 9 #[.agg #[.int .i64 k, .int .i64 n, .slice A xs.length c, .int .i64 s], .agg #[.int .i64 k', .int .i64 n', .slice D ys.length d, .int .i64 s']] W fun e w' => e = .returned (.bool (sameB k n xs k' n' ys)) ∧ Below w.heap.size w w' ∧ Below W.heap.size W w' :=
  (same_any k n s k' n' s' A D c d xs ys W (HB W hW).1 (HB W hW).2.1 (HB W hW).2.2 lx ly).mono fun _ _ ⟨he, hb⟩ => ⟨he, hW.trans (hb.mono hW.size), hb⟩
theorem rsame1 (lx : xs.length ≤ maxLen) (ly : ys.length ≤ maxLen) : Calls Tryd.prog 10 #[.agg #[.int .i64 k, .int .i64 n, .slice A xs.length c, .int .i64 s], .agg #[.int .i64 k', .int .i64 n', .slice D ys.length d, .int .i64 s']] W fun e w' => e = .returned (.bool (sameB k n xs k' n' ys)) ∧ Below w.heap.size w w' ∧ Below W.heap.size W w' :=
  (rsame_any k n s k' n' s' A D c d xs ys W (HB W hW).1 (HB W hW).2.1 (HB W hW).2.2 lx ly).mono fun _ _ ⟨he, hb⟩ => ⟨he, hW.trans (hb.mono hW.size), hb⟩
end
include HB lx ly

theorem agree_no1 (r1 : rightB k n s xs = false) :
    Calls Tryd.prog 11 #[.agg #[.int .i64 k, .int .i64 n, .slice A xs.length c, .int .i64 s], .agg #[.int .i64 k', .int .i64 n', .slice D ys.length d, .int .i64 s']] w fun e w' => e = .returned (.bool false) ∧ Below w.heap.size w w' := by
  have R1 := Lib.hid r1
  clear r1
  have HB := Lib.hid (fun o1 o2 => both_on HB (Go.Joins.below_alloc2 w o1 o2))
  go_enter Tryd.func11, Tryd.ntmps11
  go_wp2_with fail
  refine (right1 k n s c (HB.out _ _) (by exact Below.refl _ _) lx).mono ?_
  rw [R1.out]
  rintro e w1 ⟨rfl, hb1, hw1⟩
  go_wp2
  go_ret
  exact ⟨rfl, below_then (Go.Joins.below_alloc2 w _ _) hb1⟩
theorem agree_no2 (r1 : rightB k n s xs = true) (r2 : rightB k' n' s' ys = false) :
    Calls Tryd.prog 11 #[.agg #[.int .i64 k, .int .i64 n, .slice A xs.length c, .int .i64 s], .agg #[.int .i64 k', .int .i64 n', .slice D ys.length d, .int .i64 s']] w fun e w' => e = .returned (.bool false) ∧ Below w.heap.size w w' := by
  have R1 := Lib.hid r1
  have R2 := Lib.hid r2
  clear r1 r2
  have HB := Lib.hid (fun o1 o2 => both_on HB (Go.Joins.below_alloc2 w o1 o2))
  go_enter Tryd.func11, Tryd.ntmps11
  go_wp2_with fail
  refine (right1 k n s c (HB.out _ _) (by exact Below.refl _ _) lx).mono ?_
  rw [R1.out]
  rintro e w1 ⟨rfl, hb1, hw1⟩
  obtain ⟨hc1, hf1⟩ := bcell hb1
  go_wp2_with fail
  refine (right2 k' n' s' d (HB.out _ _) (by exact hb1) ly).mono ?_
  rw [R2.out]
  rintro e w2 ⟨rfl, hb2, hw2⟩
  go_wp2
  go_ret
  exact ⟨rfl, below_then (Go.Joins.below_alloc2 w _ _) hb2⟩
theorem agree_stuck (r1 : rightB k n s xs = true) (r2 : rightB k' n' s' ys = true) (h4 : k = 4 ∨ k' = 4) :
    Calls Tryd.prog 11 #[.agg #[.int .i64 k, .int .i64 n, .slice A xs.length c, .int .i64 s], .agg #[.int .i64 k', .int .i64 n', .slice D ys.length d, .int .i64 s']] w fun e w' => e = .returned (.bool (sameB k n xs k' n' ys)) ∧ Below w.heap.size w w' := by
  have R1 := Lib.hid r1
  have R2 := Lib.hid r2
  clear r1 r2
  have HB := Lib.hid (fun o1 o2 => both_on HB (Go.Joins.below_alloc2 w o1 o2))
  have h5 : k = 4 ∨ (k == 4) = false ∧ k' = 4 := by
    rcases h4 with h | h
    · exact .inl h
    · by_cases hk : k = 4
      · exact .inl hk
      · exact .inr ⟨beq_eq_false_iff_ne.2 hk, h⟩
  clear h4
  rcases h5 with rfl | ⟨h5, rfl⟩
  all_goals
    go_enter Tryd.func11, Tryd.ntmps11
    go_wp2_with fail
    refine (right1 _ n s c (HB.out _ _) (by exact Below.refl _ _) lx).mono ?_
    rw [R1.out]
    rintro e w1 ⟨rfl, hb1, hw1⟩
    obtain ⟨hc1, hf1⟩ := bcell hb1
    go_wp2_with fail
    refine (right2 _ n' s' d (HB.out _ _) (by exact hb1) ly).mono ?_
    rw [R2.out]
    rintro e w2 ⟨rfl, hb2, hw2⟩
    obtain ⟨hc2, hf2⟩ := bcell hb2
    go_wp2_with fail
    refine (same1 _ n s _ n' s' c d (HB.out _ _) (by exact hb2) lx ly).mono ?_
    rintro e w3 ⟨rfl, hb3, hw3⟩
    go_wp2
    go_ret
    exact ⟨rfl, below_then (Go.Joins.below_alloc2 w _ _) hb3⟩

theorem ragree_no1 (r1 : rightB k n s xs = false) :
    Calls Tryd.prog 12 #[.agg #[.int .i64 k, .int .i64 n, .slice A xs.length c, .int .i64 s], .agg #[.int .i64 k', .int .i64 n', .slice D ys.length d, .int .i64 s']] w fun e w' => e = .returned (.bool false) ∧ Below w.heap.size w w' := by
  have R1 := Lib.hid r1
  clear r1
  have HB := Lib.hid (fun o1 o2 => both_on HB (Go.Joins.below_alloc2 w o1 o2))
  go_enter Tryd.func12, Tryd.ntmps12
  go_wp2_with fail
  refine (rright1 k n s c (HB.out _ _) (by exact Below.refl _ _) lx).mono ?_
  rw [R1.out]
  rintro e w1 ⟨rfl, hb1, hw1⟩
  go_wp2
  go_ret
  exact ⟨rfl, below_then (Go.Joins.below_alloc2 w _ _) hb1⟩
theorem ragree_no2 (r1 : rightB k n s xs = true) (r2 : rightB k' n' s' ys = false) :
    Calls Tryd.prog 12 #[.agg #[.int .i64 k, .int .i64 n, .slice A xs.length c, .int .i64 s], .agg #[.int .i64 k', .int .i64 n', .slice D ys.length d, .int .i64 s']] w fun e w' => e = .returned (.bool false) ∧ Below w.heap.size w w' := by
  have R1 := Lib.hid r1
  have R2 := Lib.hid r2
  clear r1 r2
  have HB := Lib.hid (fun o1 o2 => both_on HB (Go.Joins.below_alloc2 w o1 o2))
  go_enter Tryd.func12, Tryd.ntmps12
  go_wp2_with fail
  refine (rright1 k n s c (HB.out _ _) (by exact Below.refl _ _) lx).mono ?_
  rw [R1.out]
  rintro e w1 ⟨rfl, hb1, hw1⟩
  obtain ⟨hc1, hf1⟩ := bcell hb1
  go_wp2_with fail
  refine (rright2 k' n' s' d (HB.out _ _) (by exact hb1) ly).mono ?_
  rw [R2.out]
  rintro e w2 ⟨rfl, hb2, hw2⟩
  go_wp2
  go_ret
  exact ⟨rfl, below_then (Go.Joins.below_alloc2 w _ _) hb2⟩
theorem ragree_stuck (r1 : rightB k n s xs = true) (r2 : rightB k' n' s' ys = true) (h4 : k = 4 ∨ k' = 4) :
    Calls Tryd.prog 12 #[.agg #[.int .i64 k, .int .i64 n, .slice A xs.length c, .int .i64 s], .agg #[.int .i64 k', .int .i64 n', .slice D ys.length d, .int .i64 s']] w fun e w' => e = .returned (.bool (sameB k n xs k' n' ys)) ∧ Below w.heap.size w w' := by
  have R1 := Lib.hid r1
  have R2 := Lib.hid r2
  clear r1 r2
  have HB := Lib.hid (fun o1 o2 => both_on HB (Go.Joins.below_alloc2 w o1 o2))
  have h5 : k = 4 ∨ (k == 4) = false ∧ k' = 4 := by
    rcases h4 with h | h
    · exact .inl h
    · by_cases hk : k = 4
      · exact .inl hk
      · exact .inr ⟨beq_eq_false_iff_ne.2 hk, h⟩
  clear h4
  rcases h5 with rfl | ⟨h5, rfl⟩
  all_goals
    go_enter Tryd.func12, Tryd.ntmps12
    go_wp2_with fail
    refine (rright1 _ n s c (HB.out _ _) (by exact Below.refl _ _) lx).mono ?_
    rw [R1.out]
    rintro e w1 ⟨rfl, hb1, hw1⟩
    obtain ⟨hc1, hf1⟩ := bcell hb1
    go_wp2_with fail
    refine (rright2 _ n' s' d (HB.out _ _) (by exact hb1) ly).mono ?_
    rw [R2.out]
    rintro e w2 ⟨rfl, hb2, hw2⟩
    obtain ⟨hc2, hf2⟩ := bcell hb2
    go_wp2_with fail
    refine (rsame1 _ n s _ n' s' c d (HB.out _ _) (by exact hb2) lx ly).mono ?_
    rintro e w3 ⟨rfl, hb3, hw3⟩
    go_wp2
    go_ret
    exact ⟨rfl, below_then (Go.Joins.below_alloc2 w _ _) hb3⟩

set_option maxHeartbeats 1600000 in
theorem agree_run (lc : xs.length ≤ c) (mc : c ≤ maxLen) (ld : ys.length ≤ d) (md : d ≤ maxLen) (r1 : rightB k n s xs = true) (r2 : rightB k' n' s' ys = true) (h4 : (k == 4) = false) (h4' : (k' == 4) = false) (c1 c2 b1 b2 : Bool) (e1 : cutB k = c1) (e2 : cutB k' = c2) (e3 : begB ys xs = b1) (e4 : begB xs ys = b2) :
    Calls Tryd.prog 11 #[.agg #[.int .i64 k, .int .i64 n, .slice A xs.length c, .int .i64 s], .agg #[.int .i64 k', .int .i64 n', .slice D ys.length d, .int .i64 s']] w fun e w' => e = .returned (.bool ((c1 && b1) || (c2 && b2) || sameB k n xs k' n' ys)) ∧ Below w.heap.size w w' := by
  have R1 := Lib.hid r1
  have R2 := Lib.hid r2
  clear r1 r2
  have HB := Lib.hid (fun o1 o2 => both_on HB (Go.Joins.below_alloc2 w o1 o2))
  cases c1 <;> cases c2 <;> cases b1 <;> cases b2
  all_goals
    go_enter Tryd.func11, Tryd.ntmps11
    go_wp2_with fail
    refine (right1 k n s c (HB.out _ _) (by exact Below.refl _ _) lx).mono ?_
    rw [R1.out]
    rintro e w1 ⟨rfl, hb1, hw1⟩
    obtain ⟨hc1, hf1⟩ := bcell hb1
    go_wp2_with fail
    refine (right2 k' n' s' d (HB.out _ _) (by exact hb1) ly).mono ?_
    rw [R2.out]
    rintro e w2 ⟨rfl, hb2, hw2⟩
    obtain ⟨hc2, hf2⟩ := bcell hb2
    go_wp2_with (first
      | (go_at_call 19; ((with_reducible refine (cut1 k n s (HB.out _ _) (by first | assumption | exact Below.refl _ _) _).mono ?_); rintro e w1 ⟨rfl, hb1⟩; obtain ⟨hc1, hf1⟩ := bcell hb1))
      | (go_at_call 19; ((with_reducible refine (cut1 k' n' s' (HB.out _ _) (by first | assumption | exact Below.refl _ _) _).mono ?_); rintro e w1 ⟨rfl, hb1⟩; obtain ⟨hc1, hf1⟩ := bcell hb1))
      | (go_at_call 20; ((with_reducible refine (begins1 c d (HB.out _ _) (by first | assumption | exact Below.refl _ _) lx ly ld md).mono ?_); rintro e w1 ⟨rfl, hb1⟩; obtain ⟨hc1, hf1⟩ := bcell hb1))
      | (go_at_call 20; ((with_reducible refine (begins2 c d (HB.out _ _) (by first | assumption | exact Below.refl _ _) lx ly lc mc).mono ?_); rintro e w1 ⟨rfl, hb1⟩; obtain ⟨hc1, hf1⟩ := bcell hb1))
      | (go_at_call 9; ((with_reducible refine (same1 k n s k' n' s' c d (HB.out _ _) (by first | assumption | exact Below.refl _ _) lx ly).mono ?_); rintro e w1 ⟨rfl, hb1, hw1⟩; obtain ⟨hc1, hf1⟩ := bcell hb1)))
    go_ret
    exact ⟨ret_bool (by simp), below_then (Go.Joins.below_alloc2 w _ _) (by assumption)⟩

set_option maxHeartbeats 1600000 in
theorem ragree_run (r1 : rightB k n s xs = true) (r2 : rightB k' n' s' ys = true) (h4 : (k == 4) = false) (h4' : (k' == 4) = false) (c1 c2 b1 b2 : Bool) (e1 : cutB k = c1) (e2 : cutB k' = c2) (e3 : begB ys xs = b1) (e4 : begB xs ys = b2) :
    Calls Tryd.prog 12 #[.agg #[.int .i64 k, .int .i64 n, .slice A xs.length c, .int .i64 s], .agg #[.int .i64 k', .int .i64 n', .slice D ys.length d, .int .i64 s']] w fun e w' => e = .returned (.bool (if (!c1 && !c2) = true then sameB k n xs k' n' ys else (c1 && b1) || (c2 && b2))) ∧ Below w.heap.size w w' := by
  have R1 := Lib.hid r1
  have R2 := Lib.hid r2
  clear r1 r2
  have HB := Lib.hid (fun o1 o2 => both_on HB (Go.Joins.below_alloc2 w o1 o2))
  cases c1 <;> cases c2 <;> cases b1 <;> cases b2
  all_goals
    go_enter Tryd.func12, Tryd.ntmps12
    go_wp2_with fail
    refine (rright1 k n s c (HB.out _ _) (by exact Below.refl _ _) lx).mono ?_
    rw [R1.out]
    rintro e w1 ⟨rfl, hb1, hw1⟩
    obtain ⟨hc1, hf1⟩ := bcell hb1
    go_wp2_with fail
    refine (rright2 k' n' s' d (HB.out _ _) (by exact hb1) ly).mono ?_
    rw [R2.out]
    rintro e w2 ⟨rfl, hb2, hw2⟩
    obtain ⟨hc2, hf2⟩ := bcell hb2
    go_wp2_with (first
      | (go_at_call 21; ((with_reducible refine (rcut1 k n s (HB.out _ _) (by first | assumption | exact Below.refl _ _) _).mono ?_); rintro e w1 ⟨rfl, hb1⟩; obtain ⟨hc1, hf1⟩ := bcell hb1))
      | (go_at_call 21; ((with_reducible refine (rcut1 k' n' s' (HB.out _ _) (by first | assumption | exact Below.refl _ _) _).mono ?_); rintro e w1 ⟨rfl, hb1⟩; obtain ⟨hc1, hf1⟩ := bcell hb1))
      | (go_at_call 22; ((with_reducible refine (rbegins1 c d (HB.out _ _) (by first | assumption | exact Below.refl _ _) lx ly).mono ?_); rintro e w1 ⟨rfl, hb1⟩; obtain ⟨hc1, hf1⟩ := bcell hb1))
      | (go_at_call 22; ((with_reducible refine (rbegins2 c d (HB.out _ _) (by first | assumption | exact Below.refl _ _) lx ly).mono ?_); rintro e w1 ⟨rfl, hb1⟩; obtain ⟨hc1, hf1⟩ := bcell hb1))
      | (go_at_call 10; ((with_reducible refine (rsame1 k n s k' n' s' c d (HB.out _ _) (by first | assumption | exact Below.refl _ _) lx ly).mono ?_); rintro e w1 ⟨rfl, hb1, hw1⟩; obtain ⟨hc1, hf1⟩ := bcell hb1)))
    go_ret
    exact ⟨ret_bool (by simp), below_then (Go.Joins.below_alloc2 w _ _) (by assumption)⟩

end
end Go.Proofs.YtmcijpdockkjbaaDoor
