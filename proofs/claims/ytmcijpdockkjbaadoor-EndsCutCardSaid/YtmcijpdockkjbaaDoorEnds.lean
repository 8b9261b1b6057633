/-
  CONTRACTS OF PACKAGE ends AND OF ITS REFERENCE.
-/
import Derived.Test.YtmcijpdockkjbaaDoorInts
import Derived.Test.YtmcijpdockkjbaaDoorRows
import Derived.ProofKit
import Derived.Outline
import Derived.Deep.QuietTactic
import Derived.BigQuiet
import Derived.Laws.EntriesVeiled
namespace Go.Proofs.YtmcijpdockkjbaaDoor
open Go.ChangeShapes Go.WideShapes Go.ChangeAt Go.RowKit
set_option linter.unusedVariables false
def in31 (x : Int) : Bool := decide (-1073741824 ≤ x) && decide (x ≤ 1073741823)

theorem take_in {xs : List Int} {k : Nat} (h : k < xs.length) (h0 : (xs.take k).all in31 = true) (h1 : -1073741824 ≤ xs[k]) (h2 : xs[k] ≤ 1073741823) : (xs.take (k + 1)).all in31 = true := by
  rw [List.take_succ_eq_append_getElem h, List.all_append, h0]
  simp [in31, h1, h2]
theorem not_in {xs : List Int} {k : Nat} (h : k < xs.length) (h1 : ¬ (-1073741824 ≤ xs[k] ∧ xs[k] ≤ 1073741823)) : xs.all in31 = false := by
  apply Bool.eq_false_iff.2
  intro ha
  have := List.all_eq_true.1 ha xs[k] (List.getElem_mem h)
  simp [in31] at this
  omega
theorem areInts_any (A : Option Addr) (c : Nat) (xs : List Int) (w : World) {B : Nat} (h : IntsAt w B A xs) (hl : xs.length ≤ maxLen) :
    Calls Tryd.prog 15 #[.slice A xs.length c] w fun e w' => e = .returned (.bool (xs.all in31)) ∧ w = w' := by
  unfold maxLen at hl
  have H := Lib.hid h
  clear h
  go_enter Tryd.func15, Tryd.ntmps15
  go_wp2
  go_loop [4, 7] (fun _ i => ∃ k : Nat, k ≤ xs.length ∧ i = .int .i64 k ∧ (xs.take k).all in31 = true) (fun _ i => xs.length - (intOf i).toNat)
  case atStart => exact ⟨0, Nat.zero_le _, rfl, rfl⟩
  case round =>
    obtain ⟨k, hk, rfl, hd⟩ := hrel
    have HD := Lib.hid hd
    clear hd
    by_cases hlt : k < xs.length
    · obtain ⟨ad, rfl, hb, hc⟩ := H.out.at_ hlt
      by_cases h1 : xs[k] < -1073741824
      · go_wp2
        go_ret
        exact ⟨ret_bool (not_in hlt (by omega)).symm, rfl⟩
      · by_cases h2 : 1073741823 < xs[k]
        · go_wp2
          go_ret
          exact ⟨ret_bool (not_in hlt (by omega)).symm, rfl⟩
        · go_wp2
          go_round
          case rel => exact ⟨k + 1, by omega, by go_num, take_in hlt HD.out (by omega) (by omega)⟩
          case measure => simp [intOf]; omega
    · go_wp2
      go_ret
      exact ⟨ret_bool (by have := HD.out; rw [List.take_of_length_le (by omega)] at this; exact this.symm), rfl⟩
/-! ### Right -/
def rightB (k n s : Int) (xs : List Int) : Bool := decide (1 ≤ k ∧ k ≤ 6) && decide (0 ≤ n ∧ (n = 0 ∨ k = 2)) && decide (0 ≤ s) && xs.all in31
theorem right_k {k n s : Int} {xs : List Int} (h : ¬ (1 ≤ k ∧ k ≤ 6)) : rightB k n s xs = false := by unfold rightB; simp [h]
theorem right_n {k n s : Int} {xs : List Int} (h : ¬ (0 ≤ n ∧ (n = 0 ∨ k = 2))) : rightB k n s xs = false := by unfold rightB; rw [decide_eq_false h]; simp
theorem right_s {k n s : Int} {xs : List Int} (h : ¬ 0 ≤ s) : rightB k n s xs = false := by unfold rightB; rw [decide_eq_false h]; simp
theorem right_i {k n s : Int} {xs : List Int} (h1 : 1 ≤ k ∧ k ≤ 6) (h2 : 0 ≤ n ∧ (n = 0 ∨ k = 2)) (h3 : 0 ≤ s) : rightB k n s xs = xs.all in31 := by unfold rightB; rw [decide_eq_true h1, decide_eq_true h2, decide_eq_true h3]; simp

theorem right_any (k n s : Int) (A : Option Addr) (c : Nat) (xs : List Int) (w : World) {B : Nat} (h : IntsAt w B A xs) (hB : B ≤ w.heap.size) (hl : xs.length ≤ maxLen) :
    Calls Tryd.prog 7 #[.agg #[.int .i64 k, .int .i64 n, .slice A xs.length c, .int .i64 s]] w fun e w' => e = .returned (.bool (rightB k n s xs)) ∧ Below w.heap.size w w' := by
  have hA := Lib.hid (areInts_any A c xs _ (h.alloc hB (.cells #[.int .i64 k, .int .i64 n, .slice A xs.length c, .int .i64 s] 25)) hl)
  by_cases k1 : 1 ≤ k ∧ k ≤ 6
  · obtain ⟨k1, k6⟩ := k1
    by_cases n1 : 0 ≤ n ∧ (n = 0 ∨ k = 2)
    · obtain ⟨n0, n1⟩ := n1
      by_cases s1 : 0 ≤ s
      · have e := Lib.hid (right_i (xs := xs) ⟨k1, k6⟩ ⟨n0, n1⟩ s1)
        rcases n1 with rfl | rfl
        all_goals
          go_enter Tryd.func7, Tryd.ntmps7
          go_wp2_with (go_at_call 15; refine hA.out.mono ?_; rintro e w' ⟨rfl, rfl⟩)
          all_goals
            go_ret
            exact ⟨ret_bool e.out.symm, below_new _ _⟩
      · have e := Lib.hid (right_s (k := k) (n := n) (xs := xs) s1)
        rcases n1 with rfl | rfl
        all_goals
          go_enter Tryd.func7, Tryd.ntmps7
          go_wp2
          all_goals
            go_ret
            exact ⟨ret_bool e.out.symm, below_new _ _⟩
    · have e := Lib.hid (right_n (s := s) (xs := xs) n1)
      have h0 : n < 0 ∨ (0 < n ∧ (k != 2) = true) := by
        by_cases h0 : n < 0
        · exact .inl h0
        · exact .inr ⟨by omega, by simp; omega⟩
      clear n1
      rcases h0 with h0 | ⟨h0, h2⟩
      all_goals
        go_enter Tryd.func7, Tryd.ntmps7
        go_wp2
        go_ret
        exact ⟨ret_bool e.out.symm, below_new _ _⟩
  · have e := Lib.hid (right_k (n := n) (s := s) (xs := xs) k1)
    by_cases k1 : k < 1
    · go_enter Tryd.func7, Tryd.ntmps7
      go_wp2
      go_ret
      exact ⟨ret_bool e.out.symm, below_new _ _⟩
    · have k6 : 6 < k := by omega
      go_enter Tryd.func7, Tryd.ntmps7
      go_wp2
      go_ret
      exact ⟨ret_bool e.out.symm, below_new _ _⟩

/-! ### Lists that are compared -/
def eqTo (xs ys : List Int) (k : Nat) : Bool := xs.take k == ys.take k
theorem take_eq {xs ys : List Int} {k : Nat} (hx : k < xs.length) (hy : k < ys.length) (h : xs.take k = ys.take k) (e : xs[k] = ys[k]) : xs.take (k + 1) = ys.take (k + 1) := by
  rw [List.take_succ_eq_append_getElem hx, List.take_succ_eq_append_getElem hy, h, e]
theorem take_ne {xs ys : List Int} {k : Nat} (hx : k < xs.length) (hy : k < ys.length) (e : ¬ xs[k] = ys[k]) (n : Nat) (hn : k < n) : ¬ xs.take n = ys.take n := fun h => e (by
  have h1 : (xs.take n)[k]? = (ys.take n)[k]? := by rw [h]
  rw [List.getElem?_take, List.getElem?_take, if_pos hn, if_pos hn, List.getElem?_eq_getElem hx, List.getElem?_eq_getElem hy] at h1
  exact Option.some.inj h1)
/-- Does the first list begin with the second? -/
def begB (a b : List Int) : Bool := decide (b.length ≤ a.length) && (a.take b.length == b)
theorem beg_yes {a b : List Int} (hl : b.length ≤ a.length) (h : a.take b.length = b.take b.length) : begB a b = true := by
  unfold begB; rw [List.take_length] at h; rw [decide_eq_true hl, h]; simp
theorem beg_no {a b : List Int} (h : ¬ a.take b.length = b.take b.length) : begB a b = false := by
  unfold begB; rw [List.take_length] at h; simp [h]
theorem beg_short {a b : List Int} (h : ¬ b.length ≤ a.length) : begB a b = false := by unfold begB; simp [h]

theorem rbegins_any (A D : Option Addr) (c d : Nat) (xs ys : List Int) (w : World) {B : Nat} (hx : IntsAt w B A xs) (hy : IntsAt w B D ys) (lx : xs.length ≤ maxLen) (ly : ys.length ≤ maxLen) :
    Calls Tryd.prog 22 #[.slice A xs.length c, .slice D ys.length d] w fun e w' => e = .returned (.bool (begB xs ys)) ∧ ∃ n, w' = w.drewN n := by
  unfold maxLen at lx ly
  have HX := Lib.hid hx
  have HY := Lib.hid hy
  clear hx hy
  by_cases hl : xs.length < ys.length
  · have e := Lib.hid (beg_short (a := xs) (b := ys) (by omega))
    go_enter Tryd.func22, Tryd.ntmps22
    go_wp2
    go_ret
    exact ⟨ret_bool e.out.symm, 0, rfl⟩
  · go_enter Tryd.func22, Tryd.ntmps22
    go_wp2
    go_loopw [5] (fun i wr => ∃ (k n : Nat), k ≤ ys.length ∧ i = .int .i64 k ∧ wr = w.drewN n ∧ xs.take k = ys.take k) (fun i _ => ys.length - (intOf i).toNat)
    case atStart => exact ⟨0, 0, Nat.zero_le _, rfl, rfl, rfl⟩
    case round =>
      obtain ⟨k, n, hk, rfl, rfl, hd⟩ := hrel
      have HD := Lib.hid hd
      clear hd
      by_cases hlt : k < ys.length
      · have hlx : k < xs.length := by omega
        obtain ⟨ax, rfl, hb, hc⟩ := HX.out.at_ hlx
        obtain ⟨ay, rfl, hb', hc'⟩ := HY.out.at_ hlt
        by_cases he : xs[k] = ys[k]
        · have HE := Lib.hid he
          have hbne : (xs[k] != ys[k]) = false := by simp [he]
          clear he
          go_wp2
          go_quiet (fail)
          go_wp2
          go_roundw
          case rel => exact ⟨k + 1, _, by omega, by go_num, rfl, take_eq hlx hlt HD.out HE.out⟩
          case measure => simp [intOf]; omega
        · have HE := Lib.hid he
          have hbne : (xs[k] != ys[k]) = true := by simp [he]
          clear he
          go_wp2
          go_quiet (fail)
          go_wp2
          go_ret
          exact ⟨ret_bool (beg_no (take_ne hlx hlt HE.out _ hlt)).symm, drew2 _ _ _⟩
      · go_wp2
        go_ret
        exact ⟨ret_bool (beg_yes (by omega) (by have := HD.out; rwa [show k = ys.length by omega] at this)).symm, _, rfl⟩

def eqB (a b : List Int) : Bool := decide (a.length = b.length) && begB a b
theorem eq_short {a b : List Int} (h : ¬ a.length = b.length) : eqB a b = false := by unfold eqB; simp [h]
theorem eq_beg {a b : List Int} (h : a.length = b.length) : eqB a b = begB a b := by unfold eqB; simp [h]
theorem rsameints_any (A D : Option Addr) (c d : Nat) (xs ys : List Int) (w : World) {B : Nat} (hx : IntsAt w B A xs) (hy : IntsAt w B D ys) (lx : xs.length ≤ maxLen) (ly : ys.length ≤ maxLen) :
    Calls Tryd.prog 18 #[.slice A xs.length c, .slice D ys.length d] w fun e w' => e = .returned (.bool (eqB xs ys)) ∧ ∃ n, w' = w.drewN n := by
  have hb := Lib.hid (rbegins_any A D c d xs ys w hx hy lx ly)
  by_cases hl : xs.length = ys.length
  · have e := Lib.hid (eq_beg hl)
    have h0 : ((xs.length : Int) == (ys.length : Int)) = true := by simp [hl]
    clear hl
    go_enter Tryd.func18, Tryd.ntmps18
    go_wp2_with (go_at_call 22; refine hb.out.mono ?_; rintro e w' ⟨rfl, n, rfl⟩)
    go_ret
    exact ⟨ret_bool e.out.symm, _, rfl⟩
  · have e := Lib.hid (eq_short hl)
    have h0 : ((xs.length : Int) == (ys.length : Int)) = false := by simp; omega
    clear hl
    go_enter Tryd.func18, Tryd.ntmps18
    go_wp2
    go_ret
    exact ⟨ret_bool e.out.symm, 0, rfl⟩

theorem equal_any (A D : Option Addr) (c d : Nat) (xs ys : List Int) (w : World) {B : Nat} (hx : IntsAt w B A xs) (hy : IntsAt w B D ys) (lx : xs.length ≤ maxLen) (ly : ys.length ≤ maxLen) :
    Calls Tryd.prog 17 #[.slice A xs.length c, .slice D ys.length d] w fun e w' => e = .returned (.bool (eqB xs ys)) ∧ ∃ n, w' = w.drewN n := by
  unfold maxLen at lx ly
  have HX := Lib.hid hx
  have HY := Lib.hid hy
  clear hx hy
  by_cases hl : xs.length = ys.length
  · have e := Lib.hid (eq_beg hl)
    have l1 : xs.length ≤ ys.length := by omega
    have l2 : ys.length ≤ xs.length := by omega
    have h1 : ((xs.length : Int) != (ys.length : Int)) = false := by simp [hl]
    clear hl
    go_enter Tryd.func17, Tryd.ntmps17
    go_wp2
    go_loopw [5, 13] (fun _ i wr => ∃ (k n : Nat), k ≤ ys.length ∧ i = .int .i64 k ∧ wr = w.drewN n ∧ xs.take k = ys.take k) (fun _ i _ => ys.length - (intOf i).toNat)
    case atStart => exact ⟨0, 0, Nat.zero_le _, rfl, rfl, rfl⟩
    case round =>
      obtain ⟨k, n, hk, rfl, rfl, hd⟩ := hrel
      have HD := Lib.hid hd
      clear hd
      by_cases hlt : k < ys.length
      · have hlx : k < xs.length := by omega
        obtain ⟨ax, rfl, hb, hc⟩ := HX.out.at_ hlx
        obtain ⟨ay, rfl, hb', hc'⟩ := HY.out.at_ hlt
        by_cases he : xs[k] = ys[k]
        · have HE := Lib.hid he
          have hbne : (xs[k] != ys[k]) = false := by simp [he]
          clear he
          go_wp2
          go_quiet (fail)
          go_wp2
          go_roundw
          case rel => exact ⟨k + 1, _, by omega, by go_num, rfl, take_eq hlx hlt HD.out HE.out⟩
          case measure => simp [intOf]; omega
        · have HE := Lib.hid he
          have hbne : (xs[k] != ys[k]) = true := by simp [he]
          clear he
          go_wp2
          go_quiet (fail)
          go_wp2
          go_ret
          exact ⟨ret_bool ((e.out.trans (beg_no (take_ne hlx hlt HE.out _ hlt))).symm), drew2 _ _ _⟩
      · have hlx : ¬ k < xs.length := by omega
        go_wp2
        go_ret
        exact ⟨ret_bool ((e.out.trans (beg_yes (by omega) (by have := HD.out; rwa [show k = ys.length by omega] at this))).symm), _, rfl⟩
  · have e := Lib.hid (eq_short hl)
    have h1 : ((xs.length : Int) != (ys.length : Int)) = true := by simp; omega
    clear hl
    go_enter Tryd.func17, Tryd.ntmps17
    go_wp2
    go_ret
    exact ⟨ret_bool e.out.symm, 0, rfl⟩

theorem eq_take {xs ys : List Int} (h : xs.length ≤ ys.length) : eqB xs (ys.take xs.length) = begB ys xs := by
  have hl : xs.length = (ys.take xs.length).length := by rw [List.length_take]; omega
  rw [eq_beg hl]
  unfold begB
  rw [decide_eq_true h, decide_eq_true (by omega), ← hl, List.take_length, Bool.eq_iff_iff]
  simp only [Bool.true_and, beq_iff_eq]
  exact ⟨fun e => e.symm, fun e => e.symm⟩
theorem begins_any (A D : Option Addr) (c d : Nat) (xs ys : List Int) (w : World) {B : Nat} (hx : IntsAt w B A xs) (hy : IntsAt w B D ys) (lx : xs.length ≤ maxLen) (ly : ys.length ≤ maxLen) (ld : ys.length ≤ d) (lm : d ≤ maxLen) :
    Calls Tryd.prog 20 #[.slice A xs.length c, .slice D ys.length d] w fun e w' => e = .returned (.bool (begB ys xs)) ∧ ∃ n, w' = w.drewN n := by
  by_cases hl : xs.length ≤ ys.length
  · have hq := Lib.hid (equal_any A D c d xs (ys.take xs.length) w hx (hy.take _) lx (by rw [List.length_take]; omega))
    rw [List.length_take, Nat.min_eq_left hl] at hq
    unfold maxLen at lx ly lm
    go_enter Tryd.func20, Tryd.ntmps20
    go_wp2_with (go_at_call 17; refine hq.out.mono ?_; rintro e w' ⟨rfl, n, rfl⟩)
    go_ret
    exact ⟨ret_bool (eq_take hl), _, rfl⟩
  · have e := Lib.hid (beg_short (a := ys) (b := xs) hl)
    have hd : decide (xs.length ≤ ys.length) = false := decide_eq_false hl
    go_enter Tryd.func20, Tryd.ntmps20
    go_wp2
    go_ret
    exact ⟨ret_bool e.out.symm, 0, rfl⟩
def cutB (k : Int) : Bool := k == 3 || k == 5 || k == 6
theorem cut_any (k n s : Int) (O : Value) (w : World) :
    Calls Tryd.prog 19 #[.agg #[.int .i64 k, .int .i64 n, O, .int .i64 s]] w fun e w' => e = .returned (.bool (cutB k)) ∧ Below w.heap.size w w' := by
  unfold cutB
  by_cases h3 : k = 3
  · subst h3
    go_enter Tryd.func19, Tryd.ntmps19
    go_wp2
    go_ret
    exact ⟨ret_bool (by simp_all), below_new _ _⟩
  · have e3 : (k == 3) = false := beq_eq_false_iff_ne.2 h3
    by_cases h5 : k = 5
    · subst h5
      go_enter Tryd.func19, Tryd.ntmps19
      go_wp2
      go_ret
      exact ⟨ret_bool (by simp_all), below_new _ _⟩
    · have e5 : (k == 5) = false := beq_eq_false_iff_ne.2 h5
      go_enter Tryd.func19, Tryd.ntmps19
      go_wp2
      go_ret
      exact ⟨ret_bool (by simp_all), below_new _ _⟩
theorem rcut_any (k n s : Int) (O : Value) (w : World) :
    Calls Tryd.prog 21 #[.agg #[.int .i64 k, .int .i64 n, O, .int .i64 s]] w fun e w' => e = .returned (.bool (cutB k)) ∧ Below w.heap.size w w' := by
  unfold cutB
  by_cases h3 : k = 3
  · subst h3
    go_enter Tryd.func21, Tryd.ntmps21
    go_wp2
    go_ret
    exact ⟨ret_bool (by simp_all), below_new _ _⟩
  · have e3 : (k == 3) = false := beq_eq_false_iff_ne.2 h3
    by_cases h5 : k = 5
    · subst h5
      go_enter Tryd.func21, Tryd.ntmps21
      go_wp2
      go_ret
      exact ⟨ret_bool (by simp_all), below_new _ _⟩
    · have e5 : (k == 5) = false := beq_eq_false_iff_ne.2 h5
      go_enter Tryd.func21, Tryd.ntmps21
      go_wp2
      go_ret
      exact ⟨ret_bool (by simp_all), below_new _ _⟩

/-! ### Same -/
def sameB (k n : Int) (xs : List Int) (k' n' : Int) (ys : List Int) : Bool := k == k' && n == n' && eqB xs ys
theorem same_any (k n s k' n' s' : Int) (A D : Option Addr) (c d : Nat) (xs ys : List Int) (w : World) {B : Nat} (hx : IntsAt w B A xs) (hy : IntsAt w B D ys) (hB : B ≤ w.heap.size) (lx : xs.length ≤ maxLen) (ly : ys.length ≤ maxLen) :
    Calls Tryd.prog 9 #[.agg #[.int .i64 k, .int .i64 n, .slice A xs.length c, .int .i64 s], .agg #[.int .i64 k', .int .i64 n', .slice D ys.length d, .int .i64 s']] w fun e w' => e = .returned (.bool (sameB k n xs k' n' ys)) ∧ Below w.heap.size w w' := by
  have hq := Lib.hid (fun o1 o2 => equal_any A D c d xs ys ((w.alloc o1).alloc o2) ((hx.alloc hB o1).alloc (by simp; omega) o2) ((hy.alloc hB o1).alloc (by simp; omega) o2) lx ly)
  unfold sameB
  by_cases hk : k = k'
  · have ek : (k == k') = true := beq_iff_eq.2 hk
    by_cases hn : n = n'
    · have en : (n == n') = true := beq_iff_eq.2 hn
      clear hk hn
      go_enter Tryd.func9, Tryd.ntmps9
      go_wp2_with (go_at_call 17; refine (hq.out _ _).mono ?_; rintro e w' ⟨rfl, m, rfl⟩)
      go_ret
      exact ⟨ret_bool (by simp [*]), below_drewN (Go.Joins.below_alloc2 _ _ _) _⟩
    · have en : (n == n') = false := beq_eq_false_iff_ne.2 hn
      clear hk hn
      go_enter Tryd.func9, Tryd.ntmps9
      go_wp2
      go_ret
      exact ⟨ret_bool (by simp [*]), Go.Joins.below_alloc2 _ _ _⟩
  · have ek : (k == k') = false := beq_eq_false_iff_ne.2 hk
    clear hk
    go_enter Tryd.func9, Tryd.ntmps9
    go_wp2
    go_ret
    exact ⟨ret_bool (by simp [*]), Go.Joins.below_alloc2 _ _ _⟩
theorem rsame_any (k n s k' n' s' : Int) (A D : Option Addr) (c d : Nat) (xs ys : List Int) (w : World) {B : Nat} (hx : IntsAt w B A xs) (hy : IntsAt w B D ys) (hB : B ≤ w.heap.size) (lx : xs.length ≤ maxLen) (ly : ys.length ≤ maxLen) :
    Calls Tryd.prog 10 #[.agg #[.int .i64 k, .int .i64 n, .slice A xs.length c, .int .i64 s], .agg #[.int .i64 k', .int .i64 n', .slice D ys.length d, .int .i64 s']] w fun e w' => e = .returned (.bool (sameB k n xs k' n' ys)) ∧ Below w.heap.size w w' := by
  have hq := Lib.hid (fun o1 o2 => rsameints_any A D c d xs ys ((w.alloc o1).alloc o2) ((hx.alloc hB o1).alloc (by simp; omega) o2) ((hy.alloc hB o1).alloc (by simp; omega) o2) lx ly)
  unfold sameB
  by_cases hk : k = k'
  · have ek : (k == k') = true := beq_iff_eq.2 hk
    by_cases hn : n = n'
    · have en : (n == n') = true := beq_iff_eq.2 hn
      clear hk hn
      go_enter Tryd.func10, Tryd.ntmps10
      go_wp2_with (go_at_call 18; refine (hq.out _ _).mono ?_; rintro e w' ⟨rfl, m, rfl⟩)
      go_ret
      exact ⟨ret_bool (by simp [*]), below_drewN (Go.Joins.below_alloc2 _ _ _) _⟩
    · have en : (n == n') = false := beq_eq_false_iff_ne.2 hn
      clear hk hn
      go_enter Tryd.func10, Tryd.ntmps10
      go_wp2
      go_ret
      exact ⟨ret_bool (by simp [*]), Go.Joins.below_alloc2 _ _ _⟩
  · have ek : (k == k') = false := beq_eq_false_iff_ne.2 hk
    clear hk
    go_enter Tryd.func10, Tryd.ntmps10
    go_wp2
    go_ret
    exact ⟨ret_bool (by simp [*]), Go.Joins.below_alloc2 _ _ _⟩
end Go.Proofs.YtmcijpdockkjbaaDoor
