/-
  THE LAW LexBack, WALKED.
-/
import Derived.Test.YtkogfdbmgdajdaaDoorLexK
import Derived.IntWalk
namespace Go.Proofs.YtkogfdbmgdajdaaDoor
open Go.ChangeShapes Go.WideShapes Go.ChangeAt Go.RowKit
set_option linter.unusedVariables false
set_option maxHeartbeats 2000000 in
theorem back_long (s : ByteArray) (hs : 3000 < s.size) (hm : s.size ≤ maxLen) (w : World) (hT : Tabs w) : Calls Tryd.prog 5 #[.string s] w fun e w' => e = .returned (.bool true) ∧ Below w.heap.size w w' := by
  have HT := Lib.hid hT
  clear hT
  unfold maxLen at hm
  go_enter Tryd.func5, Tryd.ntmps5
  go_wp2_with (go_at_call 7; refine (knows_any _ HT.out).mono ?_; rintro e w1 ⟨rfl, hb1⟩)
  go_ret
  exact ⟨rfl, hb1⟩
theorem bshow_is (l : List Tk) (A : Option Addr) (c : Nat) (hl : l.length ≤ 1000000000) (hz : (shA l).length ≤ 1000000000) (w : World) (hA : ToksAt w w.heap.size A l) (y : ByteArray) (hy : mkS (sh l) = y) :
    Calls Tryd.prog 15 #[.slice A l.length c] w fun e w' => e = .returned (.string y) ∧ Below w.heap.size w w' := by subst hy; exact show_any l A c hl hz w hA
set_option maxHeartbeats 8000000 in
theorem back_run (s : ByteArray) (hs : s.size ≤ 3000) (w : World) (hT : Tabs w) : Calls Tryd.prog 5 #[.string s] w fun e w' => e = .returned (.bool true) ∧ Below w.heap.size w w' := by
  have HT := Lib.hid hT
  clear hT
  go_enter Tryd.func5, Tryd.ntmps5
  go_wp2_with fail
  refine (scan_any s (by unfold maxLen; omega) _ HT.out).mono ?_
  rintro e w1 ⟨A, c, l, k, a, rfl, hm, hA, hlc, hcm, hn, hb1⟩
  have HM := Lib.hid hm
  have HB1 := Lib.hid hb1
  have HT1 := Lib.hid (HT.out.on hb1)
  have HTa : Hid (∀ o, Tabs (w1.alloc o)) := Lib.hid fun o => HT1.out.on (below_new w1 o)
  have hcases := scan_err (by omega) hm
  clear hm hb1
  rcases hcases with ⟨rfl, rfl⟩ | ⟨hk, ha, rfl⟩
  · obtain ⟨hz, m, hm2, hal⟩ := show_back hs HM.out
    rw [sh_len] at hz
    have hr := scan_ok (by omega) HM.out
    have hl2 : l.length ≤ 3000 := by have := reach_le hr; omega
    have HZ : Hid ((shA l).length ≤ 1000000000) := Lib.hid (by omega)
    have hl3 : l.length ≤ 1000000000 := by omega
    obtain ⟨y, hy⟩ : ∃ y, mkS (sh l) = y := ⟨_, rfl⟩
    have HM2 : Hid (scanM y = (0, 0, m)) := Lib.hid (by rw [← hy]; exact hm2)
    have hys : y.size ≤ 1000000000 := by rw [← hy, mkS_size, sh_len]; omega
    have HYS : Hid (y.size ≤ maxLen) := Lib.hid (by unfold maxLen; omega)
    have HY := Lib.hid hy
    have HA := Lib.hid hA
    have HA1 : Hid (∀ o, ToksAt (w1.alloc o) (w1.alloc o).heap.size A l) := Lib.hid fun o => (hA.below (below_new w1 o)).more (by simp)
    have HR := Lib.hid hr
    have HAL := Lib.hid hal
    clear hz hm2 hal hr hy hA
    go_wp2_with (first | (go_at_call 15; refine (bshow_is l A c hl3 HZ.out _ (HA1.out _) y HY.out).mono ?_; rintro e w2 ⟨rfl, hb2⟩; have HB2 := Lib.hid hb2; have HT2 := Lib.hid ((HTa.out _).on hb2); have HA2 := Lib.hid (((HA1.out _).below hb2).more hb2.size); clear hb2))
    refine (scan_any y HYS.out _ HT2.out).mono ?_
    rintro e w3 ⟨A3, c3, l3, k3, a3, rfl, hm3, hA3, _, _, _, hb3⟩
    obtain ⟨q1, q2⟩ := Prod.mk.inj (HM2.out.symm.trans hm3)
    obtain ⟨q2, q3⟩ := Prod.mk.inj q2
    subst q1; subst q2; subst q3
    have HA3 : Hid (∀ o, ToksAt (w3.alloc o) (w3.alloc o).heap.size A3 m) := Lib.hid fun o => (hA3.below (below_new w3 o)).more (by simp)
    have HA4 : Hid (∀ o, ToksAt (w3.alloc o) (w3.alloc o).heap.size A l) := Lib.hid fun o => ((((HA2.out).below hb3).more hb3.size).below (below_new w3 o)).more (by simp)
    have HB3 := Lib.hid hb3
    have HT3 : Hid (∀ o, Tabs (w3.alloc o)) := Lib.hid fun o => (HT2.out.on hb3).on (below_new w3 o)
    clear hm3 hA3 hb3
    have hl4 : l.length ≤ 9000000000000000000 := by omega
    go_wp2_with (first | (go_at_call 17; refine (same_yes l m HAL.out _ _ _ _ hl4 _ (HA4.out _) (HA3.out _)).mono ?_; rintro e w4 ⟨rfl, hb4⟩; have HB4 := Lib.hid hb4; have HT4 := Lib.hid ((HT3.out _).on hb4); have HA5 := Lib.hid (((HA4.out _).below hb4).more hb4.size); clear hb4))
    go_loopw [7, 62] (fun x z wr => ∃ k e : Nat, k ≤ l.length ∧ e = en (l.take k) ∧ e ≤ s.size ∧ x = .int .i64 e ∧ z = .int .i64 k ∧ Below w4.heap.size w4 wr) (fun _ z _ => l.length - (intOf z).toNat)
    case atStart => exact ⟨0, 0, Nat.zero_le _, rfl, Nat.zero_le _, rfl, rfl, Below.refl _ _⟩
    case round =>
      obtain ⟨k, en0, hk, he, hes, rfl, rfl, hb⟩ := hrel
      have HB := Lib.hid hb
      clear hb
      by_cases hlt : k < l.length
      · obtain ⟨ad, rfl, b1, e1⟩ := (HA5.out.below HB.out).tk hlt
        obtain ⟨p, hp1, hp2, hp3, hp4, hp5, hp6⟩ := tok_at HR.out hlt
        rw [← he] at hp2
        obtain ⟨y2, hy2⟩ : ∃ y2, l[k].text = y2 := ⟨_, rfl⟩
        unfold TkCells at e1
        rw [hp1] at e1
        rw [hy2] at e1 hp3 hp4 hp5 hp6
        obtain ⟨z0, z1, z2, z3⟩ := e1
        generalize l[k].kind = x0 at *
        generalize l[k].n = x3 at *
        have HP6 := Lib.hid hp6
        have HE := Lib.hid he
        clear hp6 he hp1 hy2
        go_upto_region 14 with fail
        obtain ⟨W0, hW0⟩ : ∃ W0, wr.alloc (.cells #[.int .i64 x0, .int .i64 p, .string y2, .int .i64 x3] 33) = W0 := ⟨_, rfl⟩
        have HC : Hid (∀ W, Below W0.heap.size W0 W → W.cell? ⟨wr.heap.size, 1, none⟩ = some (.int .i64 p) ∧ W.cell? ⟨wr.heap.size, 2, none⟩ = some (.string y2)) := Lib.hid fun W hW => by
          have hrow : W.heap[wr.heap.size]? = some (.cells #[.int .i64 x0, .int .i64 p, .string y2, .int .i64 x3] 33 (0, 0)) := by
            rw [hW.block _ (by rw [← hW0]; simp), ← hW0]; exact heap_new1 _ _
          exact ⟨by rw [Lib.cell_of_heap hrow]; rfl, by rw [Lib.cell_of_heap hrow]; rfl⟩
        have HB0 : Hid (Below w4.heap.size w4 W0) := Lib.hid (by rw [← hW0]; exact HB.out.alloc HB.out.size _)
        rw [hW0]
        clear hW0 z0 z1 z2 z3
        have i1 : ¬ (p : Int) < en0 := by omega
        have i2 := nonempty_of hp3
        have i3 : (y2.toList == []) = false := by rw [ByteArray.toList_eq, beq_eq_false_iff_ne]; intro h; have := size_toList y2; rw [h] at this; simp at this; omega
        have i4 : IntKind.i64.wrap ((p : Int) + y2.size) = (p : Int) + y2.size := IntWalk.i64_in _ (by omega)
        have i5 : 0 ≤ (p : Int) + y2.size := by omega
        have i6 : ((p : Int) + y2.size).toNat = p + y2.size := by omega
        have i7 : ¬ (s.size : Int) < (p : Int) + y2.size := by omega
        have i8 := neq_self y2
        have i9 : (p : Int) + y2.size ≤ s.size := by omega
        have i10 : (p : Int) ≤ (p : Int) + y2.size := by omega
        refine wp_region_S (fun w' => Below W0.heap.size W0 w') (by kernel_rfl) (below_drew1 (Below.refl _ _)) ?_
        refine wpS_take (v := ?_) (a' := ?_) 0 rfl (by kernel_rfl) (by kernel_rfl) (by kernel_rfl) ?_ ?_ ?_
        rotate_left 2
        · refine stepS_yield (by kernel_rfl) ?_; intro wS hS; obtain ⟨z1, z2⟩ := HC.out _ hS; go_simp; with_reducible rfl
        · go_simp; with_reducible rfl
        refine wpS_take (v := ?_) (a' := ?_) 1 rfl (by kernel_rfl) (by kernel_rfl) (by kernel_rfl) ?_ ?_ ?_
        rotate_left 2
        · refine stepS_yield (by kernel_rfl) ?_; intro wS hS; obtain ⟨z1, z2⟩ := HC.out _ hS; go_simp; with_reducible rfl
        · go_simp; with_reducible rfl
        refine wpS_take (v := ?_) (a' := ?_) 2 rfl (by kernel_rfl) (by kernel_rfl) (by kernel_rfl) ?_ ?_ ?_
        rotate_left 2
        · refine stepS_yield (by kernel_rfl) ?_; intro wS hS; obtain ⟨z1, z2⟩ := HC.out _ hS; go_simp; with_reducible rfl
        · go_simp; with_reducible rfl
        refine wpS_take (v := ?_) (a' := ?_) 3 rfl (by kernel_rfl) (by kernel_rfl) (by kernel_rfl) ?_ ?_ ?_
        rotate_left 2
        · refine stepS_yield (by kernel_rfl) ?_; intro wS hS; obtain ⟨z1, z2⟩ := HC.out _ hS; go_simp; with_reducible rfl
        · go_simp; with_reducible rfl
        refine wpS_take (v := ?_) (a' := ?_) 4 rfl (by kernel_rfl) (by kernel_rfl) (by kernel_rfl) ?_ ?_ ?_
        rotate_left 2
        · refine stepS_yield (by kernel_rfl) ?_; intro wS hS; obtain ⟨z1, z2⟩ := HC.out _ hS; go_simp; with_reducible rfl
        · go_simp; with_reducible rfl
        refine wpS_take (v := ?_) (a' := ?_) 5 rfl (by kernel_rfl) (by kernel_rfl) (by kernel_rfl) ?_ ?_ ?_
        rotate_left 2
        · refine stepS_yield (by kernel_rfl) ?_; intro wS hS; obtain ⟨z1, z2⟩ := HC.out _ hS; go_simp; with_reducible rfl
        · go_simp; with_reducible rfl
        refine wpS_take (v := ?_) (a' := ?_) 6 rfl (by kernel_rfl) (by kernel_rfl) (by kernel_rfl) ?_ ?_ ?_
        rotate_left 2
        · refine stepS_yield (by kernel_rfl) ?_; intro wS hS; obtain ⟨z1, z2⟩ := HC.out _ hS; go_simp; with_reducible rfl
        · go_simp; with_reducible rfl
        refine wpS_take (v := ?_) (a' := ?_) 7 rfl (by kernel_rfl) (by kernel_rfl) (by kernel_rfl) ?_ ?_ ?_
        rotate_left 2
        · refine stepS_yield (by kernel_rfl) ?_; intro wS hS; obtain ⟨z1, z2⟩ := HC.out _ hS; go_simp; with_reducible rfl
        · go_simp; with_reducible rfl
        refine wpS_take (v := ?_) (a' := ?_) 8 rfl (by kernel_rfl) (by kernel_rfl) (by kernel_rfl) ?_ ?_ ?_
        rotate_left 2
        · refine stepS_yield (by kernel_rfl) ?_; intro wS hS; obtain ⟨z1, z2⟩ := HC.out _ hS; go_simp; with_reducible rfl
        · go_simp; with_reducible rfl
        refine wpS_take (v := ?_) (a' := ?_) 9 rfl (by kernel_rfl) (by kernel_rfl) (by kernel_rfl) ?_ ?_ ?_
        rotate_left 2
        · refine stepS_yield (by kernel_rfl) ?_; intro wS hS; obtain ⟨z1, z2⟩ := HC.out _ hS; go_simp; with_reducible rfl
        · go_simp; with_reducible rfl
        refine wpS_take (v := ?_) (a' := ?_) 10 rfl (by kernel_rfl) (by kernel_rfl) (by kernel_rfl) ?_ ?_ ?_
        rotate_left 2
        · refine stepS_yield (by kernel_rfl) ?_; intro wS hS; obtain ⟨z1, z2⟩ := HC.out _ hS; go_simp; with_reducible rfl
        · go_simp; with_reducible rfl
        refine wpS_take (v := ?_) (a' := ?_) 11 rfl (by kernel_rfl) (by kernel_rfl) (by kernel_rfl) ?_ ?_ ?_
        rotate_left 2
        · refine stepS_yield (by kernel_rfl) ?_; intro wS hS; obtain ⟨z1, z2⟩ := HC.out _ hS; go_simp; with_reducible rfl
        · go_simp; with_reducible rfl
        refine wpS_take (v := ?_) (a' := ?_) 12 rfl (by kernel_rfl) (by kernel_rfl) (by kernel_rfl) ?_ ?_ ?_
        rotate_left 2
        · refine stepS_yield (by kernel_rfl) ?_; intro wS hS; obtain ⟨z1, z2⟩ := HC.out _ hS; go_simp; with_reducible rfl
        · go_simp; with_reducible rfl
        refine wpS_take (v := ?_) (a' := ?_) 13 rfl (by kernel_rfl) (by kernel_rfl) (by kernel_rfl) ?_ ?_ ?_
        rotate_left 2
        · refine stepS_yield (by kernel_rfl) ?_; intro wS hS; obtain ⟨z1, z2⟩ := HC.out _ hS; go_simp; with_reducible rfl
        · go_simp; with_reducible rfl
        refine wpS_take (v := ?_) (a' := ?_) 14 rfl (by kernel_rfl) (by kernel_rfl) (by kernel_rfl) ?_ ?_ ?_
        rotate_left 2
        · refine stepS_yield (by kernel_rfl) ?_; intro wS hS; obtain ⟨z1, z2⟩ := HC.out _ hS; go_simp; with_reducible rfl
        · go_simp; with_reducible rfl
        refine wpS_take (v := ?_) (a' := ?_) 15 rfl (by kernel_rfl) (by kernel_rfl) (by kernel_rfl) ?_ ?_ ?_
        rotate_left 2
        · refine stepS_yield (by kernel_rfl) ?_; intro wS hS; obtain ⟨z1, z2⟩ := HC.out _ hS; go_simp; with_reducible rfl
        · go_simp; with_reducible rfl
        refine wpS_take (v := ?_) (a' := ?_) 16 rfl (by kernel_rfl) (by kernel_rfl) (by kernel_rfl) ?_ ?_ ?_
        rotate_left 2
        · refine stepS_yield (by kernel_rfl) ?_; intro wS hS; obtain ⟨z1, z2⟩ := HC.out _ hS; go_simp; with_reducible rfl
        · go_simp; with_reducible rfl
        refine wpS_take (v := ?_) (a' := ?_) 17 rfl (by kernel_rfl) (by kernel_rfl) (by kernel_rfl) ?_ ?_ ?_
        rotate_left 2
        · refine stepS_yield (by kernel_rfl) ?_; intro wS hS; obtain ⟨z1, z2⟩ := HC.out _ hS; go_simp; with_reducible rfl
        · go_simp; with_reducible rfl
        refine wpS_take (v := ?_) (a' := ?_) 18 rfl (by kernel_rfl) (by kernel_rfl) (by kernel_rfl) ?_ ?_ ?_
        rotate_left 2
        · refine stepS_yield (by kernel_rfl) ?_; intro wS hS; obtain ⟨z1, z2⟩ := HC.out _ hS; go_simp; with_reducible rfl
        · go_simp; with_reducible rfl
        refine wpS_take (v := ?_) (a' := ?_) 19 rfl (by kernel_rfl) (by kernel_rfl) (by kernel_rfl) ?_ ?_ ?_
        rotate_left 2
        · refine stepS_yield (by kernel_rfl) ?_; intro wS hS; obtain ⟨z1, z2⟩ := HC.out _ hS; go_simp; with_reducible rfl
        · go_simp; with_reducible rfl
        refine wpS_take (v := ?_) (a' := ?_) 20 rfl (by kernel_rfl) (by kernel_rfl) (by kernel_rfl) ?_ ?_ ?_
        rotate_left 2
        · refine stepS_yield (by kernel_rfl) ?_; intro wS hS; obtain ⟨z1, z2⟩ := HC.out _ hS; go_simp; with_reducible rfl
        · go_simp; with_reducible rfl
        refine wpS_take (v := ?_) (a' := ?_) 21 rfl (by kernel_rfl) (by kernel_rfl) (by kernel_rfl) ?_ ?_ ?_
        rotate_left 2
        · refine stepS_yield (by kernel_rfl) ?_; intro wS hS; obtain ⟨z1, z2⟩ := HC.out _ hS; go_simp; with_reducible rfl
        · go_simp; with_reducible rfl
        refine wpS_take (v := ?_) (a' := ?_) 22 rfl (by kernel_rfl) (by kernel_rfl) (by kernel_rfl) ?_ ?_ ?_
        rotate_left 2
        · refine stepS_yield (by kernel_rfl) ?_; intro wS hS; obtain ⟨z1, z2⟩ := HC.out _ hS; go_simp; with_reducible rfl
        · go_simp; with_reducible rfl
        refine wpS_take (v := ?_) (a' := ?_) 23 rfl (by kernel_rfl) (by kernel_rfl) (by kernel_rfl) ?_ ?_ ?_
        rotate_left 2
        · refine stepS_yield (by kernel_rfl) ?_; intro wS hS; obtain ⟨z1, z2⟩ := HC.out _ hS; go_simp; with_reducible rfl
        · go_simp; with_reducible rfl
        refine wpS_take (v := ?_) (a' := ?_) 24 rfl (by kernel_rfl) (by kernel_rfl) (by kernel_rfl) ?_ ?_ ?_
        rotate_left 2
        · refine stepS_yield (by kernel_rfl) ?_; intro wS hS; obtain ⟨z1, z2⟩ := HC.out _ hS; go_simp; with_reducible rfl
        · go_simp; with_reducible rfl
        refine wpS_take (v := ?_) (a' := ?_) 25 rfl (by kernel_rfl) (by kernel_rfl) (by kernel_rfl) ?_ ?_ ?_
        rotate_left 2
        · refine stepS_yield (by kernel_rfl) ?_; intro wS hS; obtain ⟨z1, z2⟩ := HC.out _ hS; go_simp; with_reducible rfl
        · go_simp; with_reducible rfl
        refine wpS_take (v := ?_) (a' := ?_) 26 rfl (by kernel_rfl) (by kernel_rfl) (by kernel_rfl) ?_ ?_ ?_
        rotate_left 2
        · refine stepS_yield (by kernel_rfl) ?_; intro wS hS; obtain ⟨z1, z2⟩ := HC.out _ hS; go_simp; with_reducible rfl
        · go_simp; with_reducible rfl
        refine wpS_take (v := ?_) (a' := ?_) 27 rfl (by kernel_rfl) (by kernel_rfl) (by kernel_rfl) ?_ ?_ ?_
        rotate_left 2
        · refine stepS_yield (by kernel_rfl) ?_; intro wS hS; obtain ⟨z1, z2⟩ := HC.out _ hS; go_simp; with_reducible rfl
        · go_simp; with_reducible rfl
        refine wpS_take (v := ?_) (a' := ?_) 28 rfl (by kernel_rfl) (by kernel_rfl) (by kernel_rfl) ?_ ?_ ?_
        rotate_left 2
        · refine stepS_yield (by kernel_rfl) ?_; intro wS hS; obtain ⟨z1, z2⟩ := HC.out _ hS; go_simp; with_reducible rfl
        · go_simp; with_reducible rfl
        refine wpS_take (v := ?_) (a' := ?_) 29 rfl (by kernel_rfl) (by kernel_rfl) (by kernel_rfl) ?_ ?_ ?_
        rotate_left 2
        · refine stepS_yield (by kernel_rfl) ?_; intro wS hS; obtain ⟨z1, z2⟩ := HC.out _ hS; go_simp; with_reducible rfl
        · go_simp; with_reducible rfl
        refine wpS_take (v := ?_) (a' := ?_) 30 rfl (by kernel_rfl) (by kernel_rfl) (by kernel_rfl) ?_ ?_ ?_
        rotate_left 2
        · refine stepS_yield (by kernel_rfl) ?_; intro wS hS; obtain ⟨z1, z2⟩ := HC.out _ hS; go_simp; with_reducible rfl
        · go_simp; with_reducible rfl
        refine wpS_take (v := ?_) (a' := ?_) 31 rfl (by kernel_rfl) (by kernel_rfl) (by kernel_rfl) ?_ ?_ ?_
        rotate_left 2
        · refine stepS_yield (by kernel_rfl) ?_; intro wS hS; obtain ⟨z1, z2⟩ := HC.out _ hS; go_simp; with_reducible rfl
        · go_simp; with_reducible rfl
        refine wpS_take (v := ?_) (a' := ?_) 32 rfl (by kernel_rfl) (by kernel_rfl) (by kernel_rfl) ?_ ?_ ?_
        rotate_left 2
        · refine stepS_yield (by kernel_rfl) ?_; intro wS hS; obtain ⟨z1, z2⟩ := HC.out _ hS; go_simp; with_reducible rfl
        · go_simp; with_reducible rfl
        refine wpS_take (v := ?_) (a' := ?_) 33 rfl (by kernel_rfl) (by kernel_rfl) (by kernel_rfl) ?_ ?_ ?_
        rotate_left 2
        · refine stepS_yield (by kernel_rfl) ?_; intro wS hS; obtain ⟨z1, z2⟩ := HC.out _ hS; go_simp; with_reducible rfl
        · go_simp; with_reducible rfl
        refine wpS_take (v := ?_) (a' := ?_) 34 rfl (by kernel_rfl) (by kernel_rfl) (by kernel_rfl) ?_ ?_ ?_
        rotate_left 2
        · refine stepS_yield (by kernel_rfl) ?_; intro wS hS; obtain ⟨z1, z2⟩ := HC.out _ hS; go_simp; with_reducible rfl
        · go_simp; with_reducible rfl
        refine wpS_end (by kernel_rfl) ?_
        intro w9 hS9
        obtain ⟨z1, z2⟩ := HC.out _ hS9
        clear i4 i6
        go_wp2
        go_roundw
        case rel => exact ⟨k + 1, p + y2.size, by omega, HP6.out.symm, by omega, by go_num, by go_num, below_then HB0.out hS9⟩
        case measure => simp [intOf]; omega
      · have HTE := Lib.hid (HT4.out.on HB.out)
        go_wp2_with (go_at_call 7; refine (knows_any _ HTE.out).mono ?_; rintro e w9 ⟨rfl, b9⟩)
        go_ret
        exact ⟨rfl, below_then HB1.out (below_then (below_new _ _) (below_then HB2.out (below_then HB3.out (below_then (below_new _ _) (below_then HB4.out (below_then HB.out b9))))))⟩
  · have hk1 : ((k : Int) == 0) = false := by simp; omega
    clear hA
    go_wp2_with (go_at_call 7; refine (knows_any _ (HTa.out _)).mono ?_; rintro e w2 ⟨rfl, hb2⟩)
    go_ret
    exact ⟨rfl, below_then HB1.out (below_then (below_new _ _) hb2)⟩
end Go.Proofs.YtkogfdbmgdajdaaDoor
