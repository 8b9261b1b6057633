/-
  WHAT Show AND Agree GIVE, ON BOTH SIDES; THE CHAPTER'S EXAMPLE: camletlaw02.knows returns true.
-/
import Derived.Test.YtmcijpdockkjbaaDoorEndsT
import Derived.Test.YtmcijpdockkjbaaDoorOpenInts
namespace Go.Proofs.YtmcijpdockkjbaaDoor
open Go.ChangeShapes Go.WideShapes Go.ChangeAt Go.RowKit
set_option linter.unusedVariables false
theorem right_k16 {k n s : Int} {xs : List Int} (r : rightB k n s xs = true) : 1 ≤ k ∧ k ≤ 6 := by
  unfold rightB at r; simp only [Bool.and_eq_true, decide_eq_true_eq] at r; exact r.1.1.1
theorem show_e (k n s : Int) (A : Option Addr) (c : Nat) (xs : List Int) (w : World) {B : Nat} (h : IntsAt w B A xs) (hB : B ≤ w.heap.size) (hl : xs.length ≤ 300) (n0 : -9223372036854775808 ≤ n) (n1 : n ≤ 9223372036854775807) (hN : Names w) (hT : Pow10 w) :
    Calls Tryd.prog 13 #[.agg #[.int .i64 k, .int .i64 n, .slice A xs.length c, .int .i64 s]] w fun e w' => e = .returned (.string ⟨(showL k n s xs).toArray⟩) ∧ Below w.heap.size w w' := by
  unfold showL
  cases r : rightB k n s xs
  · rw [if_neg (by simp)]
    exact show_no k n s A c xs w h hB (by unfold maxLen; omega) r
  · rw [if_pos rfl]
    have := right_k16 r
    refine show_yes k n s A c xs w h hB hl r this.1 this.2 ?_ n0 n1 hN hT
    by_cases h2 : k = 2
    · exact .inl h2
    · exact .inr (beq_eq_false_iff_ne.2 h2)
theorem rshow_e (k n s : Int) (A : Option Addr) (c : Nat) (xs : List Int) (w : World) {B : Nat} (h : IntsAt w B A xs) (hB : B ≤ w.heap.size) (hl : xs.length ≤ 300) (n0 : -9223372036854775808 ≤ n) (n1 : n ≤ 9223372036854775807) :
    Calls Tryd.prog 14 #[.agg #[.int .i64 k, .int .i64 n, .slice A xs.length c, .int .i64 s]] w fun e w' => e = .returned (.string ⟨(showL k n s xs).toArray⟩) ∧ Below w.heap.size w w' := by
  unfold showL
  cases r : rightB k n s xs
  · rw [if_neg (by simp)]
    exact rshow_no k n s A c xs w h hB (by unfold maxLen; omega) r
  · rw [if_pos rfl]
    have := right_k16 r
    exact rshow_yes k n s A c xs w h hB hl r this.1 this.2 n0 n1
theorem same_beg {k n k' n' : Int} {xs ys : List Int} (h : sameB k n xs k' n' ys = true) : k = k' ∧ begB ys xs = true := by
  unfold sameB eqB begB at h
  simp only [Bool.and_eq_true, beq_iff_eq, decide_eq_true_eq] at h
  obtain ⟨⟨hk, _⟩, hl, hl2, he⟩ := h
  have : xs = ys := by rw [← he, ← hl, List.take_length]
  subst this
  refine ⟨hk, ?_⟩
  unfold begB; simp
theorem agree_ref {k n k' n' : Int} {xs ys : List Int} : (if (!cutB k && !cutB k') = true then sameB k n xs k' n' ys else (cutB k && begB ys xs) || (cutB k' && begB xs ys)) = ((cutB k && begB ys xs) || (cutB k' && begB xs ys) || sameB k n xs k' n' ys) := by
  cases hs : sameB k n xs k' n' ys
  · cases cutB k <;> cases cutB k' <;> simp
  · obtain ⟨rfl, hb⟩ := same_beg hs
    rw [hb]
    cases cutB k <;> simp
theorem agree_e (k n s k' n' s' : Int) (A D : Option Addr) (c d : Nat) (xs ys : List Int) (w : World) {B : Nat} (hx : IntsAt w B A xs) (hy : IntsAt w B D ys) (hB : B ≤ w.heap.size)
    (lc : xs.length ≤ c) (mc : c ≤ maxLen) (ld : ys.length ≤ d) (md : d ≤ maxLen) :
    Calls Tryd.prog 11 #[.agg #[.int .i64 k, .int .i64 n, .slice A xs.length c, .int .i64 s], .agg #[.int .i64 k', .int .i64 n', .slice D ys.length d, .int .i64 s']] w fun e w' => e = .returned (.bool (agreeB k n s xs k' n' s' ys)) ∧ Below w.heap.size w w' := by
  have HB := both_mk hx hy hB
  have lx : xs.length ≤ maxLen := Nat.le_trans lc mc
  have ly : ys.length ≤ maxLen := Nat.le_trans ld md
  unfold agreeB
  cases r1 : rightB k n s xs
  · exact agree_no1 k n s k' n' s' c d HB lx ly r1
  cases r2 : rightB k' n' s' ys
  · exact agree_no2 k n s k' n' s' c d HB lx ly r1 r2
  simp only [Bool.true_and]
  by_cases h4 : k = 4 ∨ k' = 4
  · rw [if_pos h4]
    exact agree_stuck k n s k' n' s' c d HB lx ly r1 r2 h4
  · rw [if_neg h4]
    exact agree_run k n s k' n' s' c d HB lx ly lc mc ld md r1 r2 (beq_eq_false_iff_ne.2 (by omega)) (beq_eq_false_iff_ne.2 (by omega)) _ _ _ _ rfl rfl rfl rfl
theorem ragree_e (k n s k' n' s' : Int) (A D : Option Addr) (c d : Nat) (xs ys : List Int) (w : World) {B : Nat} (hx : IntsAt w B A xs) (hy : IntsAt w B D ys) (hB : B ≤ w.heap.size)
    (lx : xs.length ≤ maxLen) (ly : ys.length ≤ maxLen) :
    Calls Tryd.prog 12 #[.agg #[.int .i64 k, .int .i64 n, .slice A xs.length c, .int .i64 s], .agg #[.int .i64 k', .int .i64 n', .slice D ys.length d, .int .i64 s']] w fun e w' => e = .returned (.bool (agreeB k n s xs k' n' s' ys)) ∧ Below w.heap.size w w' := by
  have HB := both_mk hx hy hB
  unfold agreeB
  cases r1 : rightB k n s xs
  · exact ragree_no1 k n s k' n' s' c d HB lx ly r1
  cases r2 : rightB k' n' s' ys
  · exact ragree_no2 k n s k' n' s' c d HB lx ly r1 r2
  simp only [Bool.true_and]
  by_cases h4 : k = 4 ∨ k' = 4
  · rw [if_pos h4]
    exact ragree_stuck k n s k' n' s' c d HB lx ly r1 r2 h4
  · rw [if_neg h4, ← agree_ref]
    exact ragree_run k n s k' n' s' c d HB lx ly r1 r2 (beq_eq_false_iff_ne.2 (by omega)) (beq_eq_false_iff_ne.2 (by omega)) _ _ _ _ rfl rfl rfl rfl

theorem itoa_1 (u : Nat) (h : u < 10) : Lib.itoa (u : Int) = [UInt8.ofNat (48 + u)] := by rw [Lib.itoa_nonneg, Lib.decDigits_one h]
theorem show_ex : showL 2 2 0 [7, 8] = [114, 97, 105, 115, 101, 32, 50, 58, 32, 55, 32, 56] := by
  have h2 := itoa_1 2 (by omega)
  have h7 := itoa_1 7 (by omega)
  have h8 := itoa_1 8 (by omega)
  have r : rightB 2 2 0 [7, 8] = true := by decide
  unfold showL
  rw [if_pos r]
  unfold headL outL numsL kindNames
  simp only [List.flatMap_cons, List.flatMap_nil]
  rw [show Lib.itoa 2 = [50] from h2, show Lib.itoa 7 = [55] from h7, show Lib.itoa 8 = [56] from h8]
  rfl
theorem ints_lit {w : World} {g : Nat} (t : TypeId) (xs : List Int) (h : w.heap[g]? = some (.cells (xs.map (Value.int .i64)).toArray t (0, 0))) : IntsAt w w.heap.size (some ⟨g, 0, none⟩) xs := fun k x hx => by
  have hlt : g < w.heap.size := by
    rcases Nat.lt_or_ge g w.heap.size with h' | h'
    · exact h'
    · rw [Array.getElem?_eq_none h'] at h; cases h
  refine ⟨_, rfl, hlt, ?_⟩
  have e : (⟨g, 0, none⟩ : Addr).add k = ⟨g, k, none⟩ := by unfold Addr.add; split <;> simp_all
  rw [e, Lib.cell_of_heap h]
  simp [hx]
theorem ints_new (w : World) (t : TypeId) (xs : List Int) : IntsAt (w.alloc (.cells (xs.map (Value.int .i64)).toArray t)) (w.heap.size + 1) (some ⟨w.heap.size, 0, none⟩) xs := by
  have := ints_lit (w := w.alloc (.cells (xs.map (Value.int .i64)).toArray t)) t xs (heap_alloc_new w _)
  simpa using this
section
variable {W : World} {b g : Nat} {B : Nat} (hI : IntsAt W B (some ⟨b, 0, none⟩) [7, 8]) (hB : B ≤ W.heap.size)
include hI hB
theorem ex_show (hN : Names W) (hT : Pow10 W) : Calls Tryd.prog 13 #[.agg #[.int .i64 2, .int .i64 2, .slice (some ⟨b, 0, none⟩) 2 2, .int .i64 0]] W fun e w' => e = .returned (.string ⟨#[114, 97, 105, 115, 101, 32, 50, 58, 32, 55, 32, 56]⟩) ∧ Below W.heap.size W w' :=
  (show_e 2 2 0 _ 2 [7, 8] W hI hB (by simp) (by omega) (by omega) hN hT).mono fun _ _ ⟨he, hb⟩ => ⟨by rw [he, show_ex], hb⟩
theorem ex_right : Calls Tryd.prog 7 #[.agg #[.int .i64 2, .int .i64 2, .slice (some ⟨b, 0, none⟩) 2 2, .int .i64 0]] W fun e w' => e = .returned (.bool true) ∧ Below W.heap.size W w' :=
  (right_any 2 2 0 _ 2 [7, 8] W hI hB (by decide)).mono fun _ _ ⟨he, hb⟩ => ⟨by rw [he]; rfl, hb⟩
theorem ex_agree1 (hJ : IntsAt W B (some ⟨g, 0, none⟩) [7]) : Calls Tryd.prog 11 #[.agg #[.int .i64 3, .int .i64 0, .slice (some ⟨g, 0, none⟩) 1 1, .int .i64 0], .agg #[.int .i64 2, .int .i64 2, .slice (some ⟨b, 0, none⟩) 2 2, .int .i64 0]] W fun e w' => e = .returned (.bool true) ∧ Below W.heap.size W w' :=
  (agree_e 3 0 0 2 2 0 _ _ 1 2 [7] [7, 8] W hJ hI hB (by simp) (by decide) (by simp) (by decide)).mono fun _ _ ⟨he, hb⟩ => ⟨by rw [he]; rfl, hb⟩
theorem ex_agree2 (hJ : IntsAt W B (some ⟨g, 0, none⟩) [7, 8]) : Calls Tryd.prog 11 #[.agg #[.int .i64 1, .int .i64 0, .slice (some ⟨g, 0, none⟩) 2 2, .int .i64 0], .agg #[.int .i64 2, .int .i64 2, .slice (some ⟨b, 0, none⟩) 2 2, .int .i64 0]] W fun e w' => e = .returned (.bool false) ∧ Below W.heap.size W w' :=
  (agree_e 1 0 0 2 2 0 _ _ 2 2 [7, 8] [7, 8] W hJ hI hB (by simp) (by decide) (by simp) (by decide)).mono fun _ _ ⟨he, hb⟩ => ⟨by rw [he]; rfl, hb⟩
end
theorem knows_any (w : World) (hN : Names w) (hT : Pow10 w) : Calls Tryd.prog 6 #[] w fun e w' => e = .returned (.bool true) ∧ Below w.heap.size w w' := by
  have i1 := Lib.hid ((ints_new w 3 [7, 8]).alloc (by simp) (.cells #[.int .i64 2, .int .i64 2, .slice (some ⟨w.heap.size, 0, none⟩) 2 2, .int .i64 0] 25))
  have b0 := Lib.hid (Go.Joins.below_alloc2 w (.cells #[.int .i64 7, .int .i64 8] 3) (.cells #[.int .i64 2, .int .i64 2, .slice (some ⟨w.heap.size, 0, none⟩) 2 2, .int .i64 0] 25))
  have HN := Lib.hid hN
  have HT := Lib.hid hT
  clear hN hT
  go_enter Tryd.func6, Tryd.ntmps6
  go_wp2_with fail
  refine (ex_show i1.out (by simp) (HN.out.on b0.out) (HT.out.on b0.out)).mono ?_
  rintro e w1 ⟨rfl, hb1⟩
  have b1 := Lib.hid (below_then b0.out hb1)
  obtain ⟨hc1, hf1⟩ := bcell hb1
  have i2 := Lib.hid (i1.out.below (hb1.mono (by simp)))
  have z1 : w.heap.size + 1 < w1.heap.size := by have := hb1.size; simp at this; omega
  go_wp2_with fail
  refine (ex_right i2.out (by omega)).mono ?_
  rintro e w2 ⟨rfl, hb2⟩
  have b2 := Lib.hid (below_then b1.out hb2)
  have hb2' := below_then hb1 hb2
  obtain ⟨hc2, hf2⟩ := bcell hb2'
  have i3 := Lib.hid (i2.out.below (hb2.mono (by omega)))
  have z2 : w.heap.size + 1 < w2.heap.size := by have := hb2.size; omega
  have i4 := Lib.hid (show IntsAt (w2.alloc (.cells #[.int .i64 7] 3)) (w2.heap.size + 1) (some ⟨w.heap.size, 0, none⟩) [7, 8] from (i3.out.alloc (by omega) _).more (by omega))
  have j4 := Lib.hid (ints_new w2 3 [7])
  go_wp2_with fail
  refine (ex_agree1 i4.out (by simp) j4.out).mono ?_
  rintro e w3 ⟨rfl, hb3⟩
  have hb3' := below_then (below_new w2 (.cells #[.int .i64 7] 3)) hb3
  have b3 := Lib.hid (below_then b2.out hb3')
  have hb3w := below_then hb2' hb3'
  obtain ⟨hc3, hf3⟩ := bcell hb3w
  have i5 := Lib.hid (i3.out.below (hb3'.mono (by omega)))
  have z3 : w.heap.size + 1 < w3.heap.size := by have := hb3'.size; omega
  have i6 := Lib.hid (show IntsAt (w3.alloc (.cells #[.int .i64 7, .int .i64 8] 3)) (w3.heap.size + 1) (some ⟨w.heap.size, 0, none⟩) [7, 8] from (i5.out.alloc (by omega) _).more (by omega))
  have j6 := Lib.hid (ints_new w3 3 [7, 8])
  go_wp2_with fail
  refine (ex_agree2 i6.out (by simp) j6.out).mono ?_
  rintro e w4 ⟨rfl, hb4⟩
  have b4 := Lib.hid (below_then b3.out (below_then (below_new w3 (.cells #[.int .i64 7, .int .i64 8] 3)) hb4))
  go_wp2
  go_ret
  exact ⟨rfl, b4.out⟩
end Go.Proofs.YtmcijpdockkjbaaDoor
