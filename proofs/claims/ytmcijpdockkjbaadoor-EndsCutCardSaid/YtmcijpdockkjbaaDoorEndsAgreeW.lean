/-
  THE WALK OF camletlaw02.EndsAgree.
-/
import Derived.Test.YtmcijpdockkjbaaDoorEndsTellsW
import Derived.Test.YtmcijpdockkjbaaDoorStable
import Derived.Deep.DeepCutAuto
namespace Go.Proofs.YtmcijpdockkjbaaDoor
open Go.ChangeShapes Go.WideShapes Go.ChangeAt Go.RowKit
set_option linter.unusedVariables false
attribute [local go_sem ↓] Go.wp_at_zero Go.wp_at_succ
def wholeB (k k' : Int) : Bool := (k == 1 || k == 2) && (k' == 1 || k' == 2)
theorem eq_symm (xs ys : List Int) : eqB xs ys = eqB ys xs := by
  have : ∀ a b : List Int, eqB a b = true → eqB b a = true := by
    intro a b h
    unfold eqB begB at h
    simp only [Bool.and_eq_true, beq_iff_eq, decide_eq_true_eq] at h
    obtain ⟨hl, hl2, he⟩ := h
    have : a = b := by rw [← he, ← hl, List.take_length]
    subst this; unfold eqB begB; simp
  cases h : eqB xs ys
  · cases h2 : eqB ys xs
    · rfl
    · rw [this _ _ h2] at h; cases h
  · rw [this _ _ h]
theorem same_symm (k n k' n' : Int) (xs ys : List Int) : sameB k n xs k' n' ys = sameB k' n' ys k n xs := by
  unfold sameB
  rw [eq_symm xs ys, show (k == k') = (k' == k) from BEq.comm, show (n == n') = (n' == n) from BEq.comm]
theorem agree_symm (k n s k' n' s' : Int) (xs ys : List Int) : agreeB k n s xs k' n' s' ys = agreeB k' n' s' ys k n s xs := by
  unfold agreeB
  rw [Bool.and_comm (rightB k n s xs), same_symm k n k' n' xs ys, Bool.or_comm (cutB k && begB ys xs)]
  by_cases h : k = 4 ∨ k' = 4
  · rw [if_pos h, if_pos (by omega)]
  · rw [if_neg h, if_neg (by omega)]
theorem same_self (k n : Int) (xs : List Int) : sameB k n xs k n xs = true := by unfold sameB eqB begB; simp
theorem agree_self (k n s : Int) (xs : List Int) : agreeB k n s xs k n s xs = rightB k n s xs := by
  unfold agreeB
  rw [same_self]
  cases rightB k n s xs <;> simp
theorem agree_whole (k n s k' n' s' : Int) (xs ys : List Int) (h : wholeB k k' = true) : agreeB k n s xs k' n' s' ys = ((sameB k n xs k' n' ys && rightB k n s xs) && rightB k' n' s' ys) := by
  unfold wholeB at h
  simp only [Bool.and_eq_true, Bool.or_eq_true, beq_iff_eq] at h
  have c1 : cutB k = false := by unfold cutB; simp; omega
  have c2 : cutB k' = false := by unfold cutB; simp; omega
  unfold agreeB
  rw [if_neg (by omega), c1, c2]
  cases rightB k n s xs <;> cases rightB k' n' s' ys <;> simp
theorem right1' {k n s : Int} {A D : Option Addr} {c : Nat} {xs ys : List Int} {w W : World} (HB : Both A D xs ys w) (hW : Below w.heap.size w W) (lx : xs.length ≤ maxLen) :
    Calls Tryd.prog 7 #[.agg #[.int .i64 k, .int .i64 n, .slice A xs.length c, .int .i64 s]] W fun e w' => e = .returned (.bool (rightB k n s xs)) ∧ Below w.heap.size w w' :=
  (right1 k n s c HB hW lx).mono fun _ _ ⟨he, hb, _⟩ => ⟨he, hb⟩
theorem right2' {k' n' s' : Int} {A D : Option Addr} {d : Nat} {xs ys : List Int} {w W : World} (HB : Both A D xs ys w) (hW : Below w.heap.size w W) (ly : ys.length ≤ maxLen) :
    Calls Tryd.prog 7 #[.agg #[.int .i64 k', .int .i64 n', .slice D ys.length d, .int .i64 s']] W fun e w' => e = .returned (.bool (rightB k' n' s' ys)) ∧ Below w.heap.size w w' :=
  (right2 k' n' s' d HB hW ly).mono fun _ _ ⟨he, hb, _⟩ => ⟨he, hb⟩
theorem same1' {k n s k' n' s' : Int} {A D : Option Addr} {c d : Nat} {xs ys : List Int} {w W : World} (HB : Both A D xs ys w) (hW : Below w.heap.size w W) (lx : xs.length ≤ maxLen) (ly : ys.length ≤ maxLen) :
    Calls Tryd.prog 9 #[.agg #[.int .i64 k, .int .i64 n, .slice A xs.length c, .int .i64 s], .agg #[.int .i64 k', .int .i64 n', .slice D ys.length d, .int .i64 s']] W fun e w' => e = .returned (.bool (sameB k n xs k' n' ys)) ∧ Below w.heap.size w w' :=
  (same1 k n s k' n' s' c d HB hW lx ly).mono fun _ _ ⟨he, hb, _⟩ => ⟨he, hb⟩
theorem agree_aa {k n s : Int} {A : Option Addr} {c : Nat} {xs : List Int} {w W : World} (HB : Both A A xs xs w) (hW : Below w.heap.size w W) (lc : xs.length ≤ c) (mc : c ≤ maxLen) :
    Calls Tryd.prog 11 #[.agg #[.int .i64 k, .int .i64 n, .slice A xs.length c, .int .i64 s], .agg #[.int .i64 k, .int .i64 n, .slice A xs.length c, .int .i64 s]] W fun e w' => e = .returned (.bool (rightB k n s xs)) ∧ Below w.heap.size w w' :=
  (agree1 HB hW lc mc lc mc).mono fun _ _ ⟨he, hb⟩ => ⟨by rw [he, agree_self], hb⟩
theorem agree_ba {k n s k' n' s' : Int} {A D : Option Addr} {c d : Nat} {xs ys : List Int} {w W : World} (HB : Both D A ys xs w) (hW : Below w.heap.size w W) (lc : xs.length ≤ c) (mc : c ≤ maxLen) (ld : ys.length ≤ d) (md : d ≤ maxLen) :
    Calls Tryd.prog 11 #[.agg #[.int .i64 k', .int .i64 n', .slice D ys.length d, .int .i64 s'], .agg #[.int .i64 k, .int .i64 n, .slice A xs.length c, .int .i64 s]] W fun e w' => e = .returned (.bool (agreeB k n s xs k' n' s' ys)) ∧ Below w.heap.size w w' :=
  (agree1 HB hW ld md lc mc).mono fun _ _ ⟨he, hb⟩ => ⟨by rw [he, agree_symm], hb⟩
section
variable {k n s k' n' s' : Int} {A D : Option Addr} {c d : Nat} {xs ys : List Int} {w W : World} {b : Bool}
theorem agree_lit (e : agreeB k n s xs k' n' s' ys = b) (HB : Both A D xs ys w) (hW : Below w.heap.size w W) (lc : xs.length ≤ c) (mc : c ≤ maxLen) (ld : ys.length ≤ d) (md : d ≤ maxLen) :
    Calls Tryd.prog 11 #[.agg #[.int .i64 k, .int .i64 n, .slice A xs.length c, .int .i64 s], .agg #[.int .i64 k', .int .i64 n', .slice D ys.length d, .int .i64 s']] W fun e w' => e = .returned (.bool b) ∧ Below w.heap.size w w' := e ▸ agree1 HB hW lc mc ld md
theorem right1_lit (e : rightB k n s xs = b) (HB : Both A D xs ys w) (hW : Below w.heap.size w W) (lx : xs.length ≤ maxLen) :
    Calls Tryd.prog 7 #[.agg #[.int .i64 k, .int .i64 n, .slice A xs.length c, .int .i64 s]] W fun e w' => e = .returned (.bool b) ∧ Below w.heap.size w w' := e ▸ right1' HB hW lx
theorem right2_lit (e : rightB k' n' s' ys = b) (HB : Both A D xs ys w) (hW : Below w.heap.size w W) (ly : ys.length ≤ maxLen) :
    Calls Tryd.prog 7 #[.agg #[.int .i64 k', .int .i64 n', .slice D ys.length d, .int .i64 s']] W fun e w' => e = .returned (.bool b) ∧ Below w.heap.size w w' := e ▸ right2' HB hW ly
theorem same1_lit (e : sameB k n xs k' n' ys = b) (HB : Both A D xs ys w) (hW : Below w.heap.size w W) (lx : xs.length ≤ maxLen) (ly : ys.length ≤ maxLen) :
    Calls Tryd.prog 9 #[.agg #[.int .i64 k, .int .i64 n, .slice A xs.length c, .int .i64 s], .agg #[.int .i64 k', .int .i64 n', .slice D ys.length d, .int .i64 s']] W fun e w' => e = .returned (.bool b) ∧ Below w.heap.size w w' := e ▸ same1' HB hW lx ly
end
section
variable (k n s k' n' s' : Int) (A D : Option Addr) (c d : Nat) (xs ys : List Int) (w : World)
theorem agr_long (hN : Names w) (hT : Pow10 w) (h : 300 < xs.length ∨ (xs.length ≤ 300 ∧ 300 < ys.length)) :
    Calls Tryd.prog 4 #[.agg #[.int .i64 k, .int .i64 n, .slice A xs.length c, .int .i64 s], .agg #[.int .i64 k', .int .i64 n', .slice D ys.length d, .int .i64 s']] w fun e w' => e = .returned (.bool true) ∧ Below w.heap.size w w' := by
  have HN := Lib.hid hN
  have HT := Lib.hid hT
  clear hN hT
  rcases h with h | ⟨h, h'⟩
  all_goals
    go_enter Tryd.func4, Tryd.ntmps4
    go_wp2_with fail
    refine (knows_any _ (HN.out.on (by exact Go.Joins.below_alloc2 w _ _)) (HT.out.on (by exact Go.Joins.below_alloc2 w _ _))).mono ?_
    rintro e w1 ⟨rfl, hb1⟩
    go_wp2
    go_ret
    exact ⟨rfl, below_then (Go.Joins.below_alloc2 w _ _) hb1⟩

set_option maxRecDepth 100000 in
set_option maxHeartbeats 3200000 in
theorem agr_run (HB : Both A D xs ys w) (hN : Names w) (hT : Pow10 w) (lx : xs.length ≤ 300) (ly : ys.length ≤ 300) (lc : xs.length ≤ c) (mc : c ≤ maxLen) (ld : ys.length ≤ d) (md : d ≤ maxLen)
    (wb sb r1 r2 : Bool) (ew : wholeB k k' = wb) (es : sameB k n xs k' n' ys = sb) (er1 : rightB k n s xs = r1) (er2 : rightB k' n' s' ys = r2) :
    Calls Tryd.prog 4 #[.agg #[.int .i64 k, .int .i64 n, .slice A xs.length c, .int .i64 s], .agg #[.int .i64 k', .int .i64 n', .slice D ys.length d, .int .i64 s']] w fun e w' => e = .returned (.bool true) ∧ Below w.heap.size w w' := by
  have HN := Lib.hid hN
  have HT := Lib.hid hT
  have HB := Lib.hid HB
  clear hN hT
  have EW := Lib.hid ew
  have ES := Lib.hid es
  have E1 := Lib.hid er1
  have E2 := Lib.hid er2
  clear ew es er1 er2
  obtain ⟨hE, hg, hW⟩ := boxed_ends w k n s A xs.length c k' n' s' D ys.length d
  have HB0 := Lib.hid (both_on HB.out hW)
  have HN0 := Lib.hid (HN.out.on hW)
  have HT0 := Lib.hid (HT.out.on hW)
  have HW := Lib.hid hW
  have mx : xs.length ≤ maxLen := by unfold maxLen; omega
  have my : ys.length ≤ maxLen := by unfold maxLen; omega
  go_enter Tryd.func4, Tryd.ntmps4
  go_upto_region 3 with fail
  rw [boxed_def]
  clear hW HB HN HT
  generalize boxed w k n s A xs.length c k' n' s' D ys.length d = W0 at *
  generalize hgg : w.heap.size = g at *
  have KE := Lib.hid (fun (w' : World) (hb : Below W0.heap.size W0 w') => show Below W0.heap.size W0 w' ∧ (w'.cell? ⟨g, 0, none⟩ = some (.int .i64 k) ∧ w'.cell? ⟨g, 1, none⟩ = some (.int .i64 n) ∧ w'.cell? ⟨g, 2, none⟩ = some (.slice A xs.length c) ∧ w'.cell? ⟨g, 3, none⟩ = some (.int .i64 s)) ∧ w'.cell? ⟨g + 1, 0, none⟩ = some (.int .i64 k') ∧ w'.cell? ⟨g + 1, 1, none⟩ = some (.int .i64 n') ∧ w'.cell? ⟨g + 1, 2, none⟩ = some (.slice D ys.length d) ∧ w'.cell? ⟨g + 1, 3, none⟩ = some (.int .i64 s') from ⟨hb, ends_keep hE hg hb⟩)
  have KS := (KE.out W0 (Below.refl _ _)).2
  clear hE
  have HK := Lib.hid (fun (W : World) (hW : Below W0.heap.size W0 W) => knows1 (show Names W0 from HN0.out) HT0.out hW)
  have HBX := Lib.hid (show Both A A xs xs W0 from fun W h => ⟨(HB0.out W h).1, (HB0.out W h).1, (HB0.out W h).2.2⟩)
  have HBY := Lib.hid (show Both D A ys xs W0 from fun W h => ⟨(HB0.out W h).2.1, (HB0.out W h).1, (HB0.out W h).2.2⟩)
  go_cut [5] from 17 to 34 (fun s5 wx => s5 = .bool wb ∧ W0 = wx)
  case first =>
    cases h1 : (k == 1) <;> cases h2 : (k == 2) <;> cases h3 : (k' == 1) <;> cases h4 : (k' == 2)
    all_goals (go_wp2_with fail; go_meet; exact ⟨congrArg Value.bool (by rw [← EW.out]; simp [wholeB, h1, h2, h3, h4]), rfl⟩)
  case rest =>
    obtain ⟨rfl, rfl⟩ := hcut
    go_wp2_with fail
    refine wp_region_S (fun w' => Below W0.heap.size W0 w') (by kernel_rfl) (below_drew1 (Below.refl _ _)) ?_
    refine wpS_take (v := ?_) (a' := ?_) 0 rfl (by kernel_rfl) (by kernel_rfl) (by kernel_rfl) ?_ ?_ ?_
    rotate_left 2
    · refine stepS_yield (by kernel_rfl) ?_; intro wS hS; have hC := (KE.out _ hS).2; go_simp; with_reducible rfl
    · go_simp; with_reducible rfl
    refine wpS_take (v := ?_) (a' := ?_) 1 rfl (by kernel_rfl) (by kernel_rfl) (by kernel_rfl) ?_ ?_ ?_
    rotate_left 2
    · refine stepS_yield (by kernel_rfl) ?_; intro wS hS; have hC := (KE.out _ hS).2; go_simp; with_reducible rfl
    · go_simp; with_reducible rfl
    refine wpS_take (v := ?_) (a' := ?_) 2 rfl (by kernel_rfl) (by kernel_rfl) (by kernel_rfl) ?_ ?_ ?_
    rotate_left 2
    · apply stepS_call (by kernel_rfl)
      · intro wS hS; go_simp; with_reducible exact ⟨rfl, rfl⟩
      intro wS hS
      first
        | (with_reducible exact agree_aa HBX.out hS lc mc)
        | (with_reducible exact right1' HB0.out hS mx)
        | (with_reducible exact agree1 HB0.out hS lc mc ld md)
        | (with_reducible exact agree_ba HBY.out hS lc mc ld md)
    · go_simp; with_reducible rfl
    refine wpS_take (v := ?_) (a' := ?_) 3 rfl (by kernel_rfl) (by kernel_rfl) (by kernel_rfl) ?_ ?_ ?_
    rotate_left 2
    · refine stepS_yield (by kernel_rfl) ?_; intro wS hS; have hC := (KE.out _ hS).2; go_simp; with_reducible rfl
    · go_simp; with_reducible rfl
    refine wpS_take (v := ?_) (a' := ?_) 4 rfl (by kernel_rfl) (by kernel_rfl) (by kernel_rfl) ?_ ?_ ?_
    rotate_left 2
    · apply stepS_call (by kernel_rfl)
      · intro wS hS; go_simp; with_reducible exact ⟨rfl, rfl⟩
      intro wS hS
      first
        | (with_reducible exact agree_aa HBX.out hS lc mc)
        | (with_reducible exact right1' HB0.out hS mx)
        | (with_reducible exact agree1 HB0.out hS lc mc ld md)
        | (with_reducible exact agree_ba HBY.out hS lc mc ld md)
    · go_simp; with_reducible rfl
    refine wpS_take (v := ?_) (a' := ?_) 5 rfl (by kernel_rfl) (by kernel_rfl) (by kernel_rfl) ?_ ?_ ?_
    rotate_left 2
    · refine stepS_yield (by kernel_rfl) ?_; intro wS hS; have hC := (KE.out _ hS).2; go_simp; with_reducible rfl
    · go_simp; with_reducible rfl
    refine wpS_take (v := ?_) (a' := ?_) 6 rfl (by kernel_rfl) (by kernel_rfl) (by kernel_rfl) ?_ ?_ ?_
    rotate_left 2
    · refine stepS_yield (by kernel_rfl) ?_; intro wS hS; have hC := (KE.out _ hS).2; go_simp; with_reducible rfl
    · go_simp; with_reducible rfl
    refine wpS_take (v := ?_) (a' := ?_) 7 rfl (by kernel_rfl) (by kernel_rfl) (by kernel_rfl) ?_ ?_ ?_
    rotate_left 2
    · refine stepS_yield (by kernel_rfl) ?_; intro wS hS; have hC := (KE.out _ hS).2; go_simp; with_reducible rfl
    · go_simp; with_reducible rfl
    refine wpS_take (v := ?_) (a' := ?_) 8 rfl (by kernel_rfl) (by kernel_rfl) (by kernel_rfl) ?_ ?_ ?_
    rotate_left 2
    · refine stepS_yield (by kernel_rfl) ?_; intro wS hS; have hC := (KE.out _ hS).2; go_simp; with_reducible rfl
    · go_simp; with_reducible rfl
    refine wpS_take (v := ?_) (a' := ?_) 9 rfl (by kernel_rfl) (by kernel_rfl) (by kernel_rfl) ?_ ?_ ?_
    rotate_left 2
    · apply stepS_call (by kernel_rfl)
      · intro wS hS; go_simp; with_reducible exact ⟨rfl, rfl⟩
      intro wS hS
      first
        | (with_reducible exact agree_aa HBX.out hS lc mc)
        | (with_reducible exact right1' HB0.out hS mx)
        | (with_reducible exact agree1 HB0.out hS lc mc ld md)
        | (with_reducible exact agree_ba HBY.out hS lc mc ld md)
    · go_simp; with_reducible rfl
    refine wpS_take (v := ?_) (a' := ?_) 10 rfl (by kernel_rfl) (by kernel_rfl) (by kernel_rfl) ?_ ?_ ?_
    rotate_left 2
    · refine stepS_yield (by kernel_rfl) ?_; intro wS hS; have hC := (KE.out _ hS).2; go_simp; with_reducible rfl
    · go_simp; with_reducible rfl
    refine wpS_take (v := ?_) (a' := ?_) 11 rfl (by kernel_rfl) (by kernel_rfl) (by kernel_rfl) ?_ ?_ ?_
    rotate_left 2
    · refine stepS_yield (by kernel_rfl) ?_; intro wS hS; have hC := (KE.out _ hS).2; go_simp; with_reducible rfl
    · go_simp; with_reducible rfl
    refine wpS_take (v := ?_) (a' := ?_) 12 rfl (by kernel_rfl) (by kernel_rfl) (by kernel_rfl) ?_ ?_ ?_
    rotate_left 2
    · apply stepS_call (by kernel_rfl)
      · intro wS hS; go_simp; with_reducible exact ⟨rfl, rfl⟩
      intro wS hS
      first
        | (with_reducible exact agree_aa HBX.out hS lc mc)
        | (with_reducible exact right1' HB0.out hS mx)
        | (with_reducible exact agree1 HB0.out hS lc mc ld md)
        | (with_reducible exact agree_ba HBY.out hS lc mc ld md)
    · go_simp; with_reducible rfl
    refine wpS_take (v := ?_) (a' := ?_) 13 rfl (by kernel_rfl) (by kernel_rfl) (by kernel_rfl) ?_ ?_ ?_
    rotate_left 2
    · refine stepS_yield (by kernel_rfl) ?_; intro wS hS; have hC := (KE.out _ hS).2; go_simp; with_reducible rfl
    · go_simp; with_reducible rfl
    refine wpS_take (v := ?_) (a' := ?_) 14 rfl (by kernel_rfl) (by kernel_rfl) (by kernel_rfl) ?_ ?_ ?_
    rotate_left 2
    · refine stepS_yield (by kernel_rfl) ?_; intro wS hS; have hC := (KE.out _ hS).2; go_simp; with_reducible rfl
    · go_simp; with_reducible rfl
    refine wpS_end (by kernel_rfl) ?_
    intro w2 hS2
    go_wp2_with fail
    cases wb
    · refine wp_region_S (fun w' => Below W0.heap.size W0 w') (by kernel_rfl) (below_drew1 hS2) ?_
      refine wpS_take (v := ?_) (a' := ?_) 0 rfl (by kernel_rfl) (by kernel_rfl) (by kernel_rfl) ?_ ?_ ?_
      rotate_left 2
      · refine stepS_yield (by kernel_rfl) ?_; intro wS hS; have hC := (KE.out _ hS).2; go_simp; with_reducible rfl
      · go_simp; with_reducible rfl
      refine wpS_take (v := ?_) (a' := ?_) 1 rfl (by kernel_rfl) (by kernel_rfl) (by kernel_rfl) ?_ ?_ ?_
      rotate_left 2
      · refine stepS_yield (by kernel_rfl) ?_; intro wS hS; have hC := (KE.out _ hS).2; go_simp; with_reducible rfl
      · go_simp; with_reducible rfl
      refine wpS_take (v := ?_) (a' := ?_) 2 rfl (by kernel_rfl) (by kernel_rfl) (by kernel_rfl) ?_ ?_ ?_
      rotate_left 2
      · refine stepS_yield (by kernel_rfl) ?_; intro wS hS; have hC := (KE.out _ hS).2; go_simp; with_reducible rfl
      · go_simp; with_reducible rfl
      refine wpS_take 3 rfl (by kernel_rfl) (by kernel_rfl) (by kernel_rfl) (stepS_not (by kernel_rfl)) (by go_simp; with_reducible rfl) ?_
      refine wpS_take 4 rfl (by kernel_rfl) (by kernel_rfl) (by kernel_rfl) (stepS_not (by kernel_rfl)) (by go_simp; with_reducible rfl) ?_
      refine wpS_take 5 rfl (by kernel_rfl) (by kernel_rfl) (by kernel_rfl) (stepS_not (by kernel_rfl)) (by go_simp; with_reducible rfl) ?_
      refine wpS_take 6 rfl (by kernel_rfl) (by kernel_rfl) (by kernel_rfl) (stepS_not (by kernel_rfl)) (by go_simp; with_reducible rfl) ?_
      refine wpS_take 7 rfl (by kernel_rfl) (by kernel_rfl) (by kernel_rfl) (stepS_not (by kernel_rfl)) (by go_simp; with_reducible rfl) ?_
      refine wpS_take 8 rfl (by kernel_rfl) (by kernel_rfl) (by kernel_rfl) (stepS_not (by kernel_rfl)) (by go_simp; with_reducible rfl) ?_
      refine wpS_take 9 rfl (by kernel_rfl) (by kernel_rfl) (by kernel_rfl) (stepS_not (by kernel_rfl)) (by go_simp; with_reducible rfl) ?_
      refine wpS_take 10 rfl (by kernel_rfl) (by kernel_rfl) (by kernel_rfl) (stepS_not (by kernel_rfl)) (by go_simp; with_reducible rfl) ?_
      refine wpS_take 11 rfl (by kernel_rfl) (by kernel_rfl) (by kernel_rfl) (stepS_not (by kernel_rfl)) (by go_simp; with_reducible rfl) ?_
      refine wpS_take 12 rfl (by kernel_rfl) (by kernel_rfl) (by kernel_rfl) (stepS_not (by kernel_rfl)) (by go_simp; with_reducible rfl) ?_
      refine wpS_take 13 rfl (by kernel_rfl) (by kernel_rfl) (by kernel_rfl) (stepS_not (by kernel_rfl)) (by go_simp; with_reducible rfl) ?_
      refine wpS_take 14 rfl (by kernel_rfl) (by kernel_rfl) (by kernel_rfl) (stepS_not (by kernel_rfl)) (by go_simp; with_reducible rfl) ?_
      refine wpS_take 15 rfl (by kernel_rfl) (by kernel_rfl) (by kernel_rfl) (stepS_not (by kernel_rfl)) (by go_simp; with_reducible rfl) ?_
      refine wpS_take 16 rfl (by kernel_rfl) (by kernel_rfl) (by kernel_rfl) (stepS_not (by kernel_rfl)) (by go_simp; with_reducible rfl) ?_
      refine wpS_take 17 rfl (by kernel_rfl) (by kernel_rfl) (by kernel_rfl) (stepS_not (by kernel_rfl)) (by go_simp; with_reducible rfl) ?_
      refine wpS_take (v := ?_) (a' := ?_) 18 rfl (by kernel_rfl) (by kernel_rfl) (by kernel_rfl) ?_ ?_ ?_
      rotate_left 2
      · refine stepS_yield (by kernel_rfl) ?_; intro wS hS; have hC := (KE.out _ hS).2; go_simp; with_reducible rfl
      · go_simp; with_reducible rfl
      refine wpS_take (v := ?_) (a' := ?_) 19 rfl (by kernel_rfl) (by kernel_rfl) (by kernel_rfl) ?_ ?_ ?_
      rotate_left 2
      · refine stepS_yield (by kernel_rfl) ?_; intro wS hS; have hC := (KE.out _ hS).2; go_simp; with_reducible rfl
      · go_simp; with_reducible rfl
      refine wpS_take (v := ?_) (a' := ?_) 20 rfl (by kernel_rfl) (by kernel_rfl) (by kernel_rfl) ?_ ?_ ?_
      rotate_left 2
      · apply stepS_call (by kernel_rfl)
        · intro wS hS; go_simp; with_reducible exact ⟨rfl, rfl⟩
        intro wS hS
        first
          | (with_reducible exact agree_lit EA.out HB0.out hS lc mc ld md)
          | (with_reducible exact right1_lit E1.out HB0.out hS mx)
          | (with_reducible exact right2_lit E2.out HB0.out hS my)
          | (with_reducible exact same1_lit ES.out HB0.out hS mx my)
          | (with_reducible exact HK.out _ hS)
      · go_simp; with_reducible rfl
      refine wpS_take (v := ?_) (a' := ?_) 21 rfl (by kernel_rfl) (by kernel_rfl) (by kernel_rfl) ?_ ?_ ?_
      rotate_left 2
      · refine stepS_yield (by kernel_rfl) ?_; intro wS hS; have hC := (KE.out _ hS).2; go_simp; with_reducible rfl
      · go_simp; with_reducible rfl
      refine wpS_take (v := ?_) (a' := ?_) 22 rfl (by kernel_rfl) (by kernel_rfl) (by kernel_rfl) ?_ ?_ ?_
      rotate_left 2
      · refine stepS_yield (by kernel_rfl) ?_; intro wS hS; have hC := (KE.out _ hS).2; go_simp; with_reducible rfl
      · go_simp; with_reducible rfl
      refine wpS_end (by kernel_rfl) ?_
      intro w3 hS3
      go_wp2_with fail
      go_ret
      exact ⟨rfl, below_then (by rw [hgg]; exact HW.out) hS3⟩
    · have EA := Lib.hid ((agree_whole k n s k' n' s' xs ys EW.out).trans (by rw [ES.out, E1.out, E2.out]))
      cases sb
      · refine wp_region_S (fun w' => Below W0.heap.size W0 w') (by kernel_rfl) (below_drew1 hS2) ?_
        refine wpS_take (v := ?_) (a' := ?_) 0 rfl (by kernel_rfl) (by kernel_rfl) (by kernel_rfl) ?_ ?_ ?_
        rotate_left 2
        · refine stepS_yield (by kernel_rfl) ?_; intro wS hS; have hC := (KE.out _ hS).2; go_simp; with_reducible rfl
        · go_simp; with_reducible rfl
        refine wpS_take (v := ?_) (a' := ?_) 1 rfl (by kernel_rfl) (by kernel_rfl) (by kernel_rfl) ?_ ?_ ?_
        rotate_left 2
        · refine stepS_yield (by kernel_rfl) ?_; intro wS hS; have hC := (KE.out _ hS).2; go_simp; with_reducible rfl
        · go_simp; with_reducible rfl
        refine wpS_take (v := ?_) (a' := ?_) 2 rfl (by kernel_rfl) (by kernel_rfl) (by kernel_rfl) ?_ ?_ ?_
        rotate_left 2
        · refine stepS_yield (by kernel_rfl) ?_; intro wS hS; have hC := (KE.out _ hS).2; go_simp; with_reducible rfl
        · go_simp; with_reducible rfl
        refine wpS_take (v := ?_) (a' := ?_) 3 rfl (by kernel_rfl) (by kernel_rfl) (by kernel_rfl) ?_ ?_ ?_
        rotate_left 2
        · refine stepS_yield (by kernel_rfl) ?_; intro wS hS; have hC := (KE.out _ hS).2; go_simp; with_reducible rfl
        · go_simp; with_reducible rfl
        refine wpS_take (v := ?_) (a' := ?_) 4 rfl (by kernel_rfl) (by kernel_rfl) (by kernel_rfl) ?_ ?_ ?_
        rotate_left 2
        · refine stepS_yield (by kernel_rfl) ?_; intro wS hS; have hC := (KE.out _ hS).2; go_simp; with_reducible rfl
        · go_simp; with_reducible rfl
        refine wpS_take (v := ?_) (a' := ?_) 5 rfl (by kernel_rfl) (by kernel_rfl) (by kernel_rfl) ?_ ?_ ?_
        rotate_left 2
        · apply stepS_call (by kernel_rfl)
          · intro wS hS; go_simp; with_reducible exact ⟨rfl, rfl⟩
          intro wS hS
          first
            | (with_reducible exact agree_lit EA.out HB0.out hS lc mc ld md)
            | (with_reducible exact right1_lit E1.out HB0.out hS mx)
            | (with_reducible exact right2_lit E2.out HB0.out hS my)
            | (with_reducible exact same1_lit ES.out HB0.out hS mx my)
            | (with_reducible exact HK.out _ hS)
        · go_simp; with_reducible rfl
        refine wpS_take (v := ?_) (a' := ?_) 6 rfl (by kernel_rfl) (by kernel_rfl) (by kernel_rfl) ?_ ?_ ?_
        rotate_left 2
        · refine stepS_yield (by kernel_rfl) ?_; intro wS hS; have hC := (KE.out _ hS).2; go_simp; with_reducible rfl
        · go_simp; with_reducible rfl
        refine wpS_take (v := ?_) (a' := ?_) 7 rfl (by kernel_rfl) (by kernel_rfl) (by kernel_rfl) ?_ ?_ ?_
        rotate_left 2
        · refine stepS_yield (by kernel_rfl) ?_; intro wS hS; have hC := (KE.out _ hS).2; go_simp; with_reducible rfl
        · go_simp; with_reducible rfl
        refine wpS_take (v := ?_) (a' := ?_) 8 rfl (by kernel_rfl) (by kernel_rfl) (by kernel_rfl) ?_ ?_ ?_
        rotate_left 2
        · apply stepS_call (by kernel_rfl)
          · intro wS hS; go_simp; with_reducible exact ⟨rfl, rfl⟩
          intro wS hS
          first
            | (with_reducible exact agree_lit EA.out HB0.out hS lc mc ld md)
            | (with_reducible exact right1_lit E1.out HB0.out hS mx)
            | (with_reducible exact right2_lit E2.out HB0.out hS my)
            | (with_reducible exact same1_lit ES.out HB0.out hS mx my)
            | (with_reducible exact HK.out _ hS)
        · go_simp; with_reducible rfl
        refine wpS_take (v := ?_) (a' := ?_) 9 rfl (by kernel_rfl) (by kernel_rfl) (by kernel_rfl) ?_ ?_ ?_
        rotate_left 2
        · refine stepS_yield (by kernel_rfl) ?_; intro wS hS; have hC := (KE.out _ hS).2; go_simp; with_reducible rfl
        · go_simp; with_reducible rfl
        refine wpS_take 10 rfl (by kernel_rfl) (by kernel_rfl) (by kernel_rfl) (stepS_not (by kernel_rfl)) (by go_simp; with_reducible rfl) ?_
        refine wpS_take 11 rfl (by kernel_rfl) (by kernel_rfl) (by kernel_rfl) (stepS_not (by kernel_rfl)) (by go_simp; with_reducible rfl) ?_
        refine wpS_take (v := ?_) (a' := ?_) 12 rfl (by kernel_rfl) (by kernel_rfl) (by kernel_rfl) ?_ ?_ ?_
        rotate_left 2
        · refine stepS_yield (by kernel_rfl) ?_; intro wS hS; have hC := (KE.out _ hS).2; go_simp; with_reducible rfl
        · go_simp; with_reducible rfl
        refine wpS_take (v := ?_) (a' := ?_) 13 rfl (by kernel_rfl) (by kernel_rfl) (by kernel_rfl) ?_ ?_ ?_
        rotate_left 2
        · refine stepS_yield (by kernel_rfl) ?_; intro wS hS; have hC := (KE.out _ hS).2; go_simp; with_reducible rfl
        · go_simp; with_reducible rfl
        refine wpS_take 14 rfl (by kernel_rfl) (by kernel_rfl) (by kernel_rfl) (stepS_not (by kernel_rfl)) (by go_simp; with_reducible rfl) ?_
        refine wpS_take 15 rfl (by kernel_rfl) (by kernel_rfl) (by kernel_rfl) (stepS_not (by kernel_rfl)) (by go_simp; with_reducible rfl) ?_
        refine wpS_take (v := ?_) (a' := ?_) 16 rfl (by kernel_rfl) (by kernel_rfl) (by kernel_rfl) ?_ ?_ ?_
        rotate_left 2
        · refine stepS_yield (by kernel_rfl) ?_; intro wS hS; have hC := (KE.out _ hS).2; go_simp; with_reducible rfl
        · go_simp; with_reducible rfl
        refine wpS_take (v := ?_) (a' := ?_) 17 rfl (by kernel_rfl) (by kernel_rfl) (by kernel_rfl) ?_ ?_ ?_
        rotate_left 2
        · refine stepS_yield (by kernel_rfl) ?_; intro wS hS; have hC := (KE.out _ hS).2; go_simp; with_reducible rfl
        · go_simp; with_reducible rfl
        refine wpS_take (v := ?_) (a' := ?_) 18 rfl (by kernel_rfl) (by kernel_rfl) (by kernel_rfl) ?_ ?_ ?_
        rotate_left 2
        · refine stepS_yield (by kernel_rfl) ?_; intro wS hS; have hC := (KE.out _ hS).2; go_simp; with_reducible rfl
        · go_simp; with_reducible rfl
        refine wpS_take (v := ?_) (a' := ?_) 19 rfl (by kernel_rfl) (by kernel_rfl) (by kernel_rfl) ?_ ?_ ?_
        rotate_left 2
        · refine stepS_yield (by kernel_rfl) ?_; intro wS hS; have hC := (KE.out _ hS).2; go_simp; with_reducible rfl
        · go_simp; with_reducible rfl
        refine wpS_take (v := ?_) (a' := ?_) 20 rfl (by kernel_rfl) (by kernel_rfl) (by kernel_rfl) ?_ ?_ ?_
        rotate_left 2
        · apply stepS_call (by kernel_rfl)
          · intro wS hS; go_simp; with_reducible exact ⟨rfl, rfl⟩
          intro wS hS
          first
            | (with_reducible exact agree_lit EA.out HB0.out hS lc mc ld md)
            | (with_reducible exact right1_lit E1.out HB0.out hS mx)
            | (with_reducible exact right2_lit E2.out HB0.out hS my)
            | (with_reducible exact same1_lit ES.out HB0.out hS mx my)
            | (with_reducible exact HK.out _ hS)
        · go_simp; with_reducible rfl
        refine wpS_take (v := ?_) (a' := ?_) 21 rfl (by kernel_rfl) (by kernel_rfl) (by kernel_rfl) ?_ ?_ ?_
        rotate_left 2
        · refine stepS_yield (by kernel_rfl) ?_; intro wS hS; have hC := (KE.out _ hS).2; go_simp; with_reducible rfl
        · go_simp; with_reducible rfl
        refine wpS_take (v := ?_) (a' := ?_) 22 rfl (by kernel_rfl) (by kernel_rfl) (by kernel_rfl) ?_ ?_ ?_
        rotate_left 2
        · refine stepS_yield (by kernel_rfl) ?_; intro wS hS; have hC := (KE.out _ hS).2; go_simp; with_reducible rfl
        · go_simp; with_reducible rfl
        refine wpS_end (by kernel_rfl) ?_
        intro w3 hS3
        go_wp2_with fail
        go_ret
        exact ⟨rfl, below_then (by rw [hgg]; exact HW.out) hS3⟩
      · cases r1
        · refine wp_region_S (fun w' => Below W0.heap.size W0 w') (by kernel_rfl) (below_drew1 hS2) ?_
          refine wpS_take (v := ?_) (a' := ?_) 0 rfl (by kernel_rfl) (by kernel_rfl) (by kernel_rfl) ?_ ?_ ?_
          rotate_left 2
          · refine stepS_yield (by kernel_rfl) ?_; intro wS hS; have hC := (KE.out _ hS).2; go_simp; with_reducible rfl
          · go_simp; with_reducible rfl
          refine wpS_take (v := ?_) (a' := ?_) 1 rfl (by kernel_rfl) (by kernel_rfl) (by kernel_rfl) ?_ ?_ ?_
          rotate_left 2
          · refine stepS_yield (by kernel_rfl) ?_; intro wS hS; have hC := (KE.out _ hS).2; go_simp; with_reducible rfl
          · go_simp; with_reducible rfl
          refine wpS_take (v := ?_) (a' := ?_) 2 rfl (by kernel_rfl) (by kernel_rfl) (by kernel_rfl) ?_ ?_ ?_
          rotate_left 2
          · refine stepS_yield (by kernel_rfl) ?_; intro wS hS; have hC := (KE.out _ hS).2; go_simp; with_reducible rfl
          · go_simp; with_reducible rfl
          refine wpS_take (v := ?_) (a' := ?_) 3 rfl (by kernel_rfl) (by kernel_rfl) (by kernel_rfl) ?_ ?_ ?_
          rotate_left 2
          · refine stepS_yield (by kernel_rfl) ?_; intro wS hS; have hC := (KE.out _ hS).2; go_simp; with_reducible rfl
          · go_simp; with_reducible rfl
          refine wpS_take (v := ?_) (a' := ?_) 4 rfl (by kernel_rfl) (by kernel_rfl) (by kernel_rfl) ?_ ?_ ?_
          rotate_left 2
          · refine stepS_yield (by kernel_rfl) ?_; intro wS hS; have hC := (KE.out _ hS).2; go_simp; with_reducible rfl
          · go_simp; with_reducible rfl
          refine wpS_take (v := ?_) (a' := ?_) 5 rfl (by kernel_rfl) (by kernel_rfl) (by kernel_rfl) ?_ ?_ ?_
          rotate_left 2
          · apply stepS_call (by kernel_rfl)
            · intro wS hS; go_simp; with_reducible exact ⟨rfl, rfl⟩
            intro wS hS
            first
              | (with_reducible exact agree_lit EA.out HB0.out hS lc mc ld md)
              | (with_reducible exact right1_lit E1.out HB0.out hS mx)
              | (with_reducible exact right2_lit E2.out HB0.out hS my)
              | (with_reducible exact same1_lit ES.out HB0.out hS mx my)
              | (with_reducible exact HK.out _ hS)
          · go_simp; with_reducible rfl
          refine wpS_take (v := ?_) (a' := ?_) 6 rfl (by kernel_rfl) (by kernel_rfl) (by kernel_rfl) ?_ ?_ ?_
          rotate_left 2
          · refine stepS_yield (by kernel_rfl) ?_; intro wS hS; have hC := (KE.out _ hS).2; go_simp; with_reducible rfl
          · go_simp; with_reducible rfl
          refine wpS_take (v := ?_) (a' := ?_) 7 rfl (by kernel_rfl) (by kernel_rfl) (by kernel_rfl) ?_ ?_ ?_
          rotate_left 2
          · refine stepS_yield (by kernel_rfl) ?_; intro wS hS; have hC := (KE.out _ hS).2; go_simp; with_reducible rfl
          · go_simp; with_reducible rfl
          refine wpS_take (v := ?_) (a' := ?_) 8 rfl (by kernel_rfl) (by kernel_rfl) (by kernel_rfl) ?_ ?_ ?_
          rotate_left 2
          · apply stepS_call (by kernel_rfl)
            · intro wS hS; go_simp; with_reducible exact ⟨rfl, rfl⟩
            intro wS hS
            first
              | (with_reducible exact agree_lit EA.out HB0.out hS lc mc ld md)
              | (with_reducible exact right1_lit E1.out HB0.out hS mx)
              | (with_reducible exact right2_lit E2.out HB0.out hS my)
              | (with_reducible exact same1_lit ES.out HB0.out hS mx my)
              | (with_reducible exact HK.out _ hS)
          · go_simp; with_reducible rfl
          refine wpS_take (v := ?_) (a' := ?_) 9 rfl (by kernel_rfl) (by kernel_rfl) (by kernel_rfl) ?_ ?_ ?_
          rotate_left 2
          · refine stepS_yield (by kernel_rfl) ?_; intro wS hS; have hC := (KE.out _ hS).2; go_simp; with_reducible rfl
          · go_simp; with_reducible rfl
          refine wpS_take (v := ?_) (a' := ?_) 10 rfl (by kernel_rfl) (by kernel_rfl) (by kernel_rfl) ?_ ?_ ?_
          rotate_left 2
          · refine stepS_yield (by kernel_rfl) ?_; intro wS hS; have hC := (KE.out _ hS).2; go_simp; with_reducible rfl
          · go_simp; with_reducible rfl
          refine wpS_take (v := ?_) (a' := ?_) 11 rfl (by kernel_rfl) (by kernel_rfl) (by kernel_rfl) ?_ ?_ ?_
          rotate_left 2
          · apply stepS_call (by kernel_rfl)
            · intro wS hS; go_simp; with_reducible exact ⟨rfl, rfl⟩
            intro wS hS
            first
              | (with_reducible exact agree_lit EA.out HB0.out hS lc mc ld md)
              | (with_reducible exact right1_lit E1.out HB0.out hS mx)
              | (with_reducible exact right2_lit E2.out HB0.out hS my)
              | (with_reducible exact same1_lit ES.out HB0.out hS mx my)
              | (with_reducible exact HK.out _ hS)
          · go_simp; with_reducible rfl
          refine wpS_take (v := ?_) (a' := ?_) 12 rfl (by kernel_rfl) (by kernel_rfl) (by kernel_rfl) ?_ ?_ ?_
          rotate_left 2
          · refine stepS_yield (by kernel_rfl) ?_; intro wS hS; have hC := (KE.out _ hS).2; go_simp; with_reducible rfl
          · go_simp; with_reducible rfl
          refine wpS_take (v := ?_) (a' := ?_) 13 rfl (by kernel_rfl) (by kernel_rfl) (by kernel_rfl) ?_ ?_ ?_
          rotate_left 2
          · refine stepS_yield (by kernel_rfl) ?_; intro wS hS; have hC := (KE.out _ hS).2; go_simp; with_reducible rfl
          · go_simp; with_reducible rfl
          refine wpS_take 14 rfl (by kernel_rfl) (by kernel_rfl) (by kernel_rfl) (stepS_not (by kernel_rfl)) (by go_simp; with_reducible rfl) ?_
          refine wpS_take 15 rfl (by kernel_rfl) (by kernel_rfl) (by kernel_rfl) (stepS_not (by kernel_rfl)) (by go_simp; with_reducible rfl) ?_
          refine wpS_take (v := ?_) (a' := ?_) 16 rfl (by kernel_rfl) (by kernel_rfl) (by kernel_rfl) ?_ ?_ ?_
          rotate_left 2
          · refine stepS_yield (by kernel_rfl) ?_; intro wS hS; have hC := (KE.out _ hS).2; go_simp; with_reducible rfl
          · go_simp; with_reducible rfl
          refine wpS_take (v := ?_) (a' := ?_) 17 rfl (by kernel_rfl) (by kernel_rfl) (by kernel_rfl) ?_ ?_ ?_
          rotate_left 2
          · refine stepS_yield (by kernel_rfl) ?_; intro wS hS; have hC := (KE.out _ hS).2; go_simp; with_reducible rfl
          · go_simp; with_reducible rfl
          refine wpS_take (v := ?_) (a' := ?_) 18 rfl (by kernel_rfl) (by kernel_rfl) (by kernel_rfl) ?_ ?_ ?_
          rotate_left 2
          · refine stepS_yield (by kernel_rfl) ?_; intro wS hS; have hC := (KE.out _ hS).2; go_simp; with_reducible rfl
          · go_simp; with_reducible rfl
          refine wpS_take (v := ?_) (a' := ?_) 19 rfl (by kernel_rfl) (by kernel_rfl) (by kernel_rfl) ?_ ?_ ?_
          rotate_left 2
          · refine stepS_yield (by kernel_rfl) ?_; intro wS hS; have hC := (KE.out _ hS).2; go_simp; with_reducible rfl
          · go_simp; with_reducible rfl
          refine wpS_take (v := ?_) (a' := ?_) 20 rfl (by kernel_rfl) (by kernel_rfl) (by kernel_rfl) ?_ ?_ ?_
          rotate_left 2
          · apply stepS_call (by kernel_rfl)
            · intro wS hS; go_simp; with_reducible exact ⟨rfl, rfl⟩
            intro wS hS
            first
              | (with_reducible exact agree_lit EA.out HB0.out hS lc mc ld md)
              | (with_reducible exact right1_lit E1.out HB0.out hS mx)
              | (with_reducible exact right2_lit E2.out HB0.out hS my)
              | (with_reducible exact same1_lit ES.out HB0.out hS mx my)
              | (with_reducible exact HK.out _ hS)
          · go_simp; with_reducible rfl
          refine wpS_take (v := ?_) (a' := ?_) 21 rfl (by kernel_rfl) (by kernel_rfl) (by kernel_rfl) ?_ ?_ ?_
          rotate_left 2
          · refine stepS_yield (by kernel_rfl) ?_; intro wS hS; have hC := (KE.out _ hS).2; go_simp; with_reducible rfl
          · go_simp; with_reducible rfl
          refine wpS_take (v := ?_) (a' := ?_) 22 rfl (by kernel_rfl) (by kernel_rfl) (by kernel_rfl) ?_ ?_ ?_
          rotate_left 2
          · refine stepS_yield (by kernel_rfl) ?_; intro wS hS; have hC := (KE.out _ hS).2; go_simp; with_reducible rfl
          · go_simp; with_reducible rfl
          refine wpS_end (by kernel_rfl) ?_
          intro w3 hS3
          go_wp2_with fail
          go_ret
          exact ⟨rfl, below_then (by rw [hgg]; exact HW.out) hS3⟩
        · cases r2
          · refine wp_region_S (fun w' => Below W0.heap.size W0 w') (by kernel_rfl) (below_drew1 hS2) ?_
            refine wpS_take (v := ?_) (a' := ?_) 0 rfl (by kernel_rfl) (by kernel_rfl) (by kernel_rfl) ?_ ?_ ?_
            rotate_left 2
            · refine stepS_yield (by kernel_rfl) ?_; intro wS hS; have hC := (KE.out _ hS).2; go_simp; with_reducible rfl
            · go_simp; with_reducible rfl
            refine wpS_take (v := ?_) (a' := ?_) 1 rfl (by kernel_rfl) (by kernel_rfl) (by kernel_rfl) ?_ ?_ ?_
            rotate_left 2
            · refine stepS_yield (by kernel_rfl) ?_; intro wS hS; have hC := (KE.out _ hS).2; go_simp; with_reducible rfl
            · go_simp; with_reducible rfl
            refine wpS_take (v := ?_) (a' := ?_) 2 rfl (by kernel_rfl) (by kernel_rfl) (by kernel_rfl) ?_ ?_ ?_
            rotate_left 2
            · refine stepS_yield (by kernel_rfl) ?_; intro wS hS; have hC := (KE.out _ hS).2; go_simp; with_reducible rfl
            · go_simp; with_reducible rfl
            refine wpS_take (v := ?_) (a' := ?_) 3 rfl (by kernel_rfl) (by kernel_rfl) (by kernel_rfl) ?_ ?_ ?_
            rotate_left 2
            · refine stepS_yield (by kernel_rfl) ?_; intro wS hS; have hC := (KE.out _ hS).2; go_simp; with_reducible rfl
            · go_simp; with_reducible rfl
            refine wpS_take (v := ?_) (a' := ?_) 4 rfl (by kernel_rfl) (by kernel_rfl) (by kernel_rfl) ?_ ?_ ?_
            rotate_left 2
            · refine stepS_yield (by kernel_rfl) ?_; intro wS hS; have hC := (KE.out _ hS).2; go_simp; with_reducible rfl
            · go_simp; with_reducible rfl
            refine wpS_take (v := ?_) (a' := ?_) 5 rfl (by kernel_rfl) (by kernel_rfl) (by kernel_rfl) ?_ ?_ ?_
            rotate_left 2
            · apply stepS_call (by kernel_rfl)
              · intro wS hS; go_simp; with_reducible exact ⟨rfl, rfl⟩
              intro wS hS
              first
                | (with_reducible exact agree_lit EA.out HB0.out hS lc mc ld md)
                | (with_reducible exact right1_lit E1.out HB0.out hS mx)
                | (with_reducible exact right2_lit E2.out HB0.out hS my)
                | (with_reducible exact same1_lit ES.out HB0.out hS mx my)
                | (with_reducible exact HK.out _ hS)
            · go_simp; with_reducible rfl
            refine wpS_take (v := ?_) (a' := ?_) 6 rfl (by kernel_rfl) (by kernel_rfl) (by kernel_rfl) ?_ ?_ ?_
            rotate_left 2
            · refine stepS_yield (by kernel_rfl) ?_; intro wS hS; have hC := (KE.out _ hS).2; go_simp; with_reducible rfl
            · go_simp; with_reducible rfl
            refine wpS_take (v := ?_) (a' := ?_) 7 rfl (by kernel_rfl) (by kernel_rfl) (by kernel_rfl) ?_ ?_ ?_
            rotate_left 2
            · refine stepS_yield (by kernel_rfl) ?_; intro wS hS; have hC := (KE.out _ hS).2; go_simp; with_reducible rfl
            · go_simp; with_reducible rfl
            refine wpS_take (v := ?_) (a' := ?_) 8 rfl (by kernel_rfl) (by kernel_rfl) (by kernel_rfl) ?_ ?_ ?_
            rotate_left 2
            · apply stepS_call (by kernel_rfl)
              · intro wS hS; go_simp; with_reducible exact ⟨rfl, rfl⟩
              intro wS hS
              first
                | (with_reducible exact agree_lit EA.out HB0.out hS lc mc ld md)
                | (with_reducible exact right1_lit E1.out HB0.out hS mx)
                | (with_reducible exact right2_lit E2.out HB0.out hS my)
                | (with_reducible exact same1_lit ES.out HB0.out hS mx my)
                | (with_reducible exact HK.out _ hS)
            · go_simp; with_reducible rfl
            refine wpS_take (v := ?_) (a' := ?_) 9 rfl (by kernel_rfl) (by kernel_rfl) (by kernel_rfl) ?_ ?_ ?_
            rotate_left 2
            · refine stepS_yield (by kernel_rfl) ?_; intro wS hS; have hC := (KE.out _ hS).2; go_simp; with_reducible rfl
            · go_simp; with_reducible rfl
            refine wpS_take (v := ?_) (a' := ?_) 10 rfl (by kernel_rfl) (by kernel_rfl) (by kernel_rfl) ?_ ?_ ?_
            rotate_left 2
            · refine stepS_yield (by kernel_rfl) ?_; intro wS hS; have hC := (KE.out _ hS).2; go_simp; with_reducible rfl
            · go_simp; with_reducible rfl
            refine wpS_take (v := ?_) (a' := ?_) 11 rfl (by kernel_rfl) (by kernel_rfl) (by kernel_rfl) ?_ ?_ ?_
            rotate_left 2
            · apply stepS_call (by kernel_rfl)
              · intro wS hS; go_simp; with_reducible exact ⟨rfl, rfl⟩
              intro wS hS
              first
                | (with_reducible exact agree_lit EA.out HB0.out hS lc mc ld md)
                | (with_reducible exact right1_lit E1.out HB0.out hS mx)
                | (with_reducible exact right2_lit E2.out HB0.out hS my)
                | (with_reducible exact same1_lit ES.out HB0.out hS mx my)
                | (with_reducible exact HK.out _ hS)
            · go_simp; with_reducible rfl
            refine wpS_take (v := ?_) (a' := ?_) 12 rfl (by kernel_rfl) (by kernel_rfl) (by kernel_rfl) ?_ ?_ ?_
            rotate_left 2
            · refine stepS_yield (by kernel_rfl) ?_; intro wS hS; have hC := (KE.out _ hS).2; go_simp; with_reducible rfl
            · go_simp; with_reducible rfl
            refine wpS_take (v := ?_) (a' := ?_) 13 rfl (by kernel_rfl) (by kernel_rfl) (by kernel_rfl) ?_ ?_ ?_
            rotate_left 2
            · refine stepS_yield (by kernel_rfl) ?_; intro wS hS; have hC := (KE.out _ hS).2; go_simp; with_reducible rfl
            · go_simp; with_reducible rfl
            refine wpS_take (v := ?_) (a' := ?_) 14 rfl (by kernel_rfl) (by kernel_rfl) (by kernel_rfl) ?_ ?_ ?_
            rotate_left 2
            · refine stepS_yield (by kernel_rfl) ?_; intro wS hS; have hC := (KE.out _ hS).2; go_simp; with_reducible rfl
            · go_simp; with_reducible rfl
            refine wpS_take (v := ?_) (a' := ?_) 15 rfl (by kernel_rfl) (by kernel_rfl) (by kernel_rfl) ?_ ?_ ?_
            rotate_left 2
            · apply stepS_call (by kernel_rfl)
              · intro wS hS; go_simp; with_reducible exact ⟨rfl, rfl⟩
              intro wS hS
              first
                | (with_reducible exact agree_lit EA.out HB0.out hS lc mc ld md)
                | (with_reducible exact right1_lit E1.out HB0.out hS mx)
                | (with_reducible exact right2_lit E2.out HB0.out hS my)
                | (with_reducible exact same1_lit ES.out HB0.out hS mx my)
                | (with_reducible exact HK.out _ hS)
            · go_simp; with_reducible rfl
            refine wpS_take (v := ?_) (a' := ?_) 16 rfl (by kernel_rfl) (by kernel_rfl) (by kernel_rfl) ?_ ?_ ?_
            rotate_left 2
            · refine stepS_yield (by kernel_rfl) ?_; intro wS hS; have hC := (KE.out _ hS).2; go_simp; with_reducible rfl
            · go_simp; with_reducible rfl
            refine wpS_take (v := ?_) (a' := ?_) 17 rfl (by kernel_rfl) (by kernel_rfl) (by kernel_rfl) ?_ ?_ ?_
            rotate_left 2
            · refine stepS_yield (by kernel_rfl) ?_; intro wS hS; have hC := (KE.out _ hS).2; go_simp; with_reducible rfl
            · go_simp; with_reducible rfl
            refine wpS_take (v := ?_) (a' := ?_) 18 rfl (by kernel_rfl) (by kernel_rfl) (by kernel_rfl) ?_ ?_ ?_
            rotate_left 2
            · refine stepS_yield (by kernel_rfl) ?_; intro wS hS; have hC := (KE.out _ hS).2; go_simp; with_reducible rfl
            · go_simp; with_reducible rfl
            refine wpS_take (v := ?_) (a' := ?_) 19 rfl (by kernel_rfl) (by kernel_rfl) (by kernel_rfl) ?_ ?_ ?_
            rotate_left 2
            · refine stepS_yield (by kernel_rfl) ?_; intro wS hS; have hC := (KE.out _ hS).2; go_simp; with_reducible rfl
            · go_simp; with_reducible rfl
            refine wpS_take (v := ?_) (a' := ?_) 20 rfl (by kernel_rfl) (by kernel_rfl) (by kernel_rfl) ?_ ?_ ?_
            rotate_left 2
            · apply stepS_call (by kernel_rfl)
              · intro wS hS; go_simp; with_reducible exact ⟨rfl, rfl⟩
              intro wS hS
              first
                | (with_reducible exact agree_lit EA.out HB0.out hS lc mc ld md)
                | (with_reducible exact right1_lit E1.out HB0.out hS mx)
                | (with_reducible exact right2_lit E2.out HB0.out hS my)
                | (with_reducible exact same1_lit ES.out HB0.out hS mx my)
                | (with_reducible exact HK.out _ hS)
            · go_simp; with_reducible rfl
            refine wpS_take (v := ?_) (a' := ?_) 21 rfl (by kernel_rfl) (by kernel_rfl) (by kernel_rfl) ?_ ?_ ?_
            rotate_left 2
            · refine stepS_yield (by kernel_rfl) ?_; intro wS hS; have hC := (KE.out _ hS).2; go_simp; with_reducible rfl
            · go_simp; with_reducible rfl
            refine wpS_take (v := ?_) (a' := ?_) 22 rfl (by kernel_rfl) (by kernel_rfl) (by kernel_rfl) ?_ ?_ ?_
            rotate_left 2
            · refine stepS_yield (by kernel_rfl) ?_; intro wS hS; have hC := (KE.out _ hS).2; go_simp; with_reducible rfl
            · go_simp; with_reducible rfl
            refine wpS_end (by kernel_rfl) ?_
            intro w3 hS3
            go_wp2_with fail
            go_ret
            exact ⟨rfl, below_then (by rw [hgg]; exact HW.out) hS3⟩
          · refine wp_region_S (fun w' => Below W0.heap.size W0 w') (by kernel_rfl) (below_drew1 hS2) ?_
            refine wpS_take (v := ?_) (a' := ?_) 0 rfl (by kernel_rfl) (by kernel_rfl) (by kernel_rfl) ?_ ?_ ?_
            rotate_left 2
            · refine stepS_yield (by kernel_rfl) ?_; intro wS hS; have hC := (KE.out _ hS).2; go_simp; with_reducible rfl
            · go_simp; with_reducible rfl
            refine wpS_take (v := ?_) (a' := ?_) 1 rfl (by kernel_rfl) (by kernel_rfl) (by kernel_rfl) ?_ ?_ ?_
            rotate_left 2
            · refine stepS_yield (by kernel_rfl) ?_; intro wS hS; have hC := (KE.out _ hS).2; go_simp; with_reducible rfl
            · go_simp; with_reducible rfl
            refine wpS_take (v := ?_) (a' := ?_) 2 rfl (by kernel_rfl) (by kernel_rfl) (by kernel_rfl) ?_ ?_ ?_
            rotate_left 2
            · refine stepS_yield (by kernel_rfl) ?_; intro wS hS; have hC := (KE.out _ hS).2; go_simp; with_reducible rfl
            · go_simp; with_reducible rfl
            refine wpS_take (v := ?_) (a' := ?_) 3 rfl (by kernel_rfl) (by kernel_rfl) (by kernel_rfl) ?_ ?_ ?_
            rotate_left 2
            · refine stepS_yield (by kernel_rfl) ?_; intro wS hS; have hC := (KE.out _ hS).2; go_simp; with_reducible rfl
            · go_simp; with_reducible rfl
            refine wpS_take (v := ?_) (a' := ?_) 4 rfl (by kernel_rfl) (by kernel_rfl) (by kernel_rfl) ?_ ?_ ?_
            rotate_left 2
            · refine stepS_yield (by kernel_rfl) ?_; intro wS hS; have hC := (KE.out _ hS).2; go_simp; with_reducible rfl
            · go_simp; with_reducible rfl
            refine wpS_take (v := ?_) (a' := ?_) 5 rfl (by kernel_rfl) (by kernel_rfl) (by kernel_rfl) ?_ ?_ ?_
            rotate_left 2
            · apply stepS_call (by kernel_rfl)
              · intro wS hS; go_simp; with_reducible exact ⟨rfl, rfl⟩
              intro wS hS
              first
                | (with_reducible exact agree_lit EA.out HB0.out hS lc mc ld md)
                | (with_reducible exact right1_lit E1.out HB0.out hS mx)
                | (with_reducible exact right2_lit E2.out HB0.out hS my)
                | (with_reducible exact same1_lit ES.out HB0.out hS mx my)
                | (with_reducible exact HK.out _ hS)
            · go_simp; with_reducible rfl
            refine wpS_take (v := ?_) (a' := ?_) 6 rfl (by kernel_rfl) (by kernel_rfl) (by kernel_rfl) ?_ ?_ ?_
            rotate_left 2
            · refine stepS_yield (by kernel_rfl) ?_; intro wS hS; have hC := (KE.out _ hS).2; go_simp; with_reducible rfl
            · go_simp; with_reducible rfl
            refine wpS_take (v := ?_) (a' := ?_) 7 rfl (by kernel_rfl) (by kernel_rfl) (by kernel_rfl) ?_ ?_ ?_
            rotate_left 2
            · refine stepS_yield (by kernel_rfl) ?_; intro wS hS; have hC := (KE.out _ hS).2; go_simp; with_reducible rfl
            · go_simp; with_reducible rfl
            refine wpS_take (v := ?_) (a' := ?_) 8 rfl (by kernel_rfl) (by kernel_rfl) (by kernel_rfl) ?_ ?_ ?_
            rotate_left 2
            · apply stepS_call (by kernel_rfl)
              · intro wS hS; go_simp; with_reducible exact ⟨rfl, rfl⟩
              intro wS hS
              first
                | (with_reducible exact agree_lit EA.out HB0.out hS lc mc ld md)
                | (with_reducible exact right1_lit E1.out HB0.out hS mx)
                | (with_reducible exact right2_lit E2.out HB0.out hS my)
                | (with_reducible exact same1_lit ES.out HB0.out hS mx my)
                | (with_reducible exact HK.out _ hS)
            · go_simp; with_reducible rfl
            refine wpS_take (v := ?_) (a' := ?_) 9 rfl (by kernel_rfl) (by kernel_rfl) (by kernel_rfl) ?_ ?_ ?_
            rotate_left 2
            · refine stepS_yield (by kernel_rfl) ?_; intro wS hS; have hC := (KE.out _ hS).2; go_simp; with_reducible rfl
            · go_simp; with_reducible rfl
            refine wpS_take (v := ?_) (a' := ?_) 10 rfl (by kernel_rfl) (by kernel_rfl) (by kernel_rfl) ?_ ?_ ?_
            rotate_left 2
            · refine stepS_yield (by kernel_rfl) ?_; intro wS hS; have hC := (KE.out _ hS).2; go_simp; with_reducible rfl
            · go_simp; with_reducible rfl
            refine wpS_take (v := ?_) (a' := ?_) 11 rfl (by kernel_rfl) (by kernel_rfl) (by kernel_rfl) ?_ ?_ ?_
            rotate_left 2
            · apply stepS_call (by kernel_rfl)
              · intro wS hS; go_simp; with_reducible exact ⟨rfl, rfl⟩
              intro wS hS
              first
                | (with_reducible exact agree_lit EA.out HB0.out hS lc mc ld md)
                | (with_reducible exact right1_lit E1.out HB0.out hS mx)
                | (with_reducible exact right2_lit E2.out HB0.out hS my)
                | (with_reducible exact same1_lit ES.out HB0.out hS mx my)
                | (with_reducible exact HK.out _ hS)
            · go_simp; with_reducible rfl
            refine wpS_take (v := ?_) (a' := ?_) 12 rfl (by kernel_rfl) (by kernel_rfl) (by kernel_rfl) ?_ ?_ ?_
            rotate_left 2
            · refine stepS_yield (by kernel_rfl) ?_; intro wS hS; have hC := (KE.out _ hS).2; go_simp; with_reducible rfl
            · go_simp; with_reducible rfl
            refine wpS_take (v := ?_) (a' := ?_) 13 rfl (by kernel_rfl) (by kernel_rfl) (by kernel_rfl) ?_ ?_ ?_
            rotate_left 2
            · refine stepS_yield (by kernel_rfl) ?_; intro wS hS; have hC := (KE.out _ hS).2; go_simp; with_reducible rfl
            · go_simp; with_reducible rfl
            refine wpS_take (v := ?_) (a' := ?_) 14 rfl (by kernel_rfl) (by kernel_rfl) (by kernel_rfl) ?_ ?_ ?_
            rotate_left 2
            · refine stepS_yield (by kernel_rfl) ?_; intro wS hS; have hC := (KE.out _ hS).2; go_simp; with_reducible rfl
            · go_simp; with_reducible rfl
            refine wpS_take (v := ?_) (a' := ?_) 15 rfl (by kernel_rfl) (by kernel_rfl) (by kernel_rfl) ?_ ?_ ?_
            rotate_left 2
            · apply stepS_call (by kernel_rfl)
              · intro wS hS; go_simp; with_reducible exact ⟨rfl, rfl⟩
              intro wS hS
              first
                | (with_reducible exact agree_lit EA.out HB0.out hS lc mc ld md)
                | (with_reducible exact right1_lit E1.out HB0.out hS mx)
                | (with_reducible exact right2_lit E2.out HB0.out hS my)
                | (with_reducible exact same1_lit ES.out HB0.out hS mx my)
                | (with_reducible exact HK.out _ hS)
            · go_simp; with_reducible rfl
            refine wpS_take (v := ?_) (a' := ?_) 16 rfl (by kernel_rfl) (by kernel_rfl) (by kernel_rfl) ?_ ?_ ?_
            rotate_left 2
            · refine stepS_yield (by kernel_rfl) ?_; intro wS hS; have hC := (KE.out _ hS).2; go_simp; with_reducible rfl
            · go_simp; with_reducible rfl
            refine wpS_take (v := ?_) (a' := ?_) 17 rfl (by kernel_rfl) (by kernel_rfl) (by kernel_rfl) ?_ ?_ ?_
            rotate_left 2
            · refine stepS_yield (by kernel_rfl) ?_; intro wS hS; have hC := (KE.out _ hS).2; go_simp; with_reducible rfl
            · go_simp; with_reducible rfl
            refine wpS_take (v := ?_) (a' := ?_) 18 rfl (by kernel_rfl) (by kernel_rfl) (by kernel_rfl) ?_ ?_ ?_
            rotate_left 2
            · refine stepS_yield (by kernel_rfl) ?_; intro wS hS; have hC := (KE.out _ hS).2; go_simp; with_reducible rfl
            · go_simp; with_reducible rfl
            refine wpS_take (v := ?_) (a' := ?_) 19 rfl (by kernel_rfl) (by kernel_rfl) (by kernel_rfl) ?_ ?_ ?_
            rotate_left 2
            · refine stepS_yield (by kernel_rfl) ?_; intro wS hS; have hC := (KE.out _ hS).2; go_simp; with_reducible rfl
            · go_simp; with_reducible rfl
            refine wpS_take (v := ?_) (a' := ?_) 20 rfl (by kernel_rfl) (by kernel_rfl) (by kernel_rfl) ?_ ?_ ?_
            rotate_left 2
            · apply stepS_call (by kernel_rfl)
              · intro wS hS; go_simp; with_reducible exact ⟨rfl, rfl⟩
              intro wS hS
              first
                | (with_reducible exact agree_lit EA.out HB0.out hS lc mc ld md)
                | (with_reducible exact right1_lit E1.out HB0.out hS mx)
                | (with_reducible exact right2_lit E2.out HB0.out hS my)
                | (with_reducible exact same1_lit ES.out HB0.out hS mx my)
                | (with_reducible exact HK.out _ hS)
            · go_simp; with_reducible rfl
            refine wpS_take (v := ?_) (a' := ?_) 21 rfl (by kernel_rfl) (by kernel_rfl) (by kernel_rfl) ?_ ?_ ?_
            rotate_left 2
            · refine stepS_yield (by kernel_rfl) ?_; intro wS hS; have hC := (KE.out _ hS).2; go_simp; with_reducible rfl
            · go_simp; with_reducible rfl
            refine wpS_take (v := ?_) (a' := ?_) 22 rfl (by kernel_rfl) (by kernel_rfl) (by kernel_rfl) ?_ ?_ ?_
            rotate_left 2
            · refine stepS_yield (by kernel_rfl) ?_; intro wS hS; have hC := (KE.out _ hS).2; go_simp; with_reducible rfl
            · go_simp; with_reducible rfl
            refine wpS_end (by kernel_rfl) ?_
            intro w3 hS3
            go_wp2_with fail
            go_ret
            exact ⟨rfl, below_then (by rw [hgg]; exact HW.out) hS3⟩
end
end Go.Proofs.YtmcijpdockkjbaaDoor
